import Derived.Test.YtfhmhdhaibmcfaaDoorFv
namespace Go.Proofs.YtfhmhdhaibmcfaaDoor
open Go.RowKit
set_option linter.unusedVariables false
set_option linter.unusedSimpArgs false
set_option maxRecDepth 20000 in
set_option maxHeartbeats 1000000 in
theorem refWord_any (s : ByteArray) (hs : s.size ≤ 4611686018427387904) (w : World) : Calls Tryd.prog 52 #[.string s] w fun e w' => e = .returned (.bool (wordP s.toList)) ∧ w = w' := by
  have hl := lsize s
  by_cases h0 : s.size = 0
  · have h0I : (s.size : Int) < 1 := by omega
    have hN : wordP s.toList = false := by
      have : s.toList = [] := List.length_eq_zero_iff.1 (by omega)
      rw [this]; rfl
    rw [hN]
    clear hN
    go_enter Tryd.func52, Tryd.ntmps52
    go_wp2
    go_ret
    exact ⟨rfl, rfl⟩
  · have h0I : ¬ (s.size : Int) < 1 := by omega
    have h0z : 0 < s.size := by omega
    have h0z' : (0 : Int) < s.size := by omega
    by_cases h64 : 64 < s.size
    · have h64I : (64 : Int) < s.size := by omega
      have hN : wordP s.toList = false := by simp [wordP, hl]; omega
      rw [hN]
      clear hN
      go_enter Tryd.func52, Tryd.ntmps52
      go_wp2
      go_ret
      exact ⟨rfl, rfl⟩
    · have h64I : ¬ (64 : Int) < s.size := by omega
      obtain ⟨r, hr⟩ := head_of (s := s) h0z
      have hst : startP s.toList = letP (bI s[0]) := by rw [hr]; exact (kinds ⟨s[0].toNat, s[0].toNat_lt⟩).2.1.symm
      have CL := hidOf (fun wx => refLetter_any (bI s[0]) wx)
      cases hlt : letP (bI s[0])
      · have hN : wordP s.toList = false := by simp [wordP, hst, hlt]
        rw [hN]
        rw [hlt] at CL
        clear hN hr
        unfold bI at CL
        go_enter Tryd.func52, Tryd.ntmps52
        go_wp2_with (go_at_call 55; refine (CL.out _).mono ?_; rintro e w1 ⟨rfl, rfl⟩)
        go_ret
        exact ⟨rfl, rfl⟩
      · have HW : Hid (wordP s.toList = s.toList.all runU) := by
          have : s.toList.length ≤ 64 := by omega
          exact hidOf (by simp [wordP, hst, hlt, this])
        rw [hlt] at CL
        have Hl := hidOf hl
        clear hr hst hlt hl
        unfold bI at CL
        go_enter Tryd.func52, Tryd.ntmps52
        go_wp2_with (go_at_call 55; refine (CL.out _).mono ?_; rintro e w1 ⟨rfl, rfl⟩)
        go_loopw [3] (fun kv wr => ∃ k : Nat, kv = .int .i64 k ∧ k ≤ s.size ∧ Hid ((s.toList.take k).all runU = true) ∧ wr = w) (fun kv _ => s.size - (intOf kv).toNat)
        case atStart => exact ⟨0, rfl, by omega, hidOf rfl, rfl⟩
        case round =>
          obtain ⟨k, rfl, hk, HA, rfl⟩ := hrel
          by_cases hlt : k < s.size
          · have hltI : (k : Int) < s.size := by omega
            have hg := lget s k hlt
            have HT : Hid ((s.toList.take (k + 1)).all runU = runU s[k]) := by
              rw [List.take_add_one, hg, List.all_append, HA.out]
              exact hidOf (by simp)
            have HT2 : Hid (runU s[k] = false → s.toList.all runU = false) := fun h => by
              rw [← Bool.not_eq_true]
              intro ha
              have := List.all_eq_true.1 ha s[k] (List.mem_of_getElem? hg)
              rw [h] at this; cases this
            have CI := hidOf (fun wx => refInner_any (bI s[k]) wx)
            rw [show runP (bI s[k]) = runU s[k] from rfl] at CI
            unfold bI at CI
            clear hg
            cases hru : runU s[k]
            · rw [hru] at CI
              have HF := hidOf (HT2.out hru)
              go_wp2_with (go_at_call 65; refine (CI.out _).mono ?_; rintro e w1 ⟨rfl, rfl⟩)
              go_ret
              exact ⟨by rw [HW.out, HF.out]; rfl, rfl⟩
            · rw [hru] at CI HT
              go_wp2_with (go_at_call 65; refine (CI.out _).mono ?_; rintro e w1 ⟨rfl, rfl⟩)
              go_roundw
              case rel => exact ⟨k + 1, by simp, by omega, HT, by first | rfl | trivial⟩
              case measure => simp [intOf]; omega
          · have hltI : ¬ (k : Int) < s.size := by omega
            have HF : Hid (s.toList.all runU = true) := by
              have h := HA.out
              rw [List.take_of_length_le (by have := Hl.out; omega)] at h
              exact hidOf h
            go_wp2
            go_ret
            exact ⟨by rw [HW.out, HF.out]; rfl, rfl⟩
theorem dot_cons (c : UInt8) (r : List UInt8) : dotP (c :: r) = (c == 46 && wordP r) := by
  unfold dotP Lib.trimPrefix
  by_cases h : c = 46
  · subst h
    have : Lib.hasPrefix ((46 : UInt8) :: r) [46] = true := by simp [Lib.hasPrefix]
    rw [this]
    simp
  · have : Lib.hasPrefix (c :: r) [46] = false := by simp [Lib.hasPrefix, List.isPrefixOf]; exact fun e => h e.symm
    rw [this]
    simp [h]
set_option maxRecDepth 20000 in
set_option maxHeartbeats 4000000 in
theorem refMay_any (k : Int) (s : ByteArray) (n l : Int) (w : World) (hs : s.size ≤ 4611686018427387904) : Calls Tryd.prog 39 #[.agg #[.int .i64 k, .string s, .int .u64 n, .int .i64 l]] w fun e w' => e = .returned (.int .i64 (mayP ⟨k, s.toList, n, l⟩)) ∧ Out w w' := by
  have c0 : ∀ cs : Array Value, ∀ j, (w.alloc (.cells cs 36)).cell? ⟨w.heap.size, j, none⟩ = cs[j]? := fun cs j => cell_fresh _ _ _ _ _ rfl
  have d0 : (w.alloc (.cells #[.int .i64 k, .string s, .int .u64 n, .int .i64 l] 36)).cell? ⟨w.heap.size, 0, none⟩ = some (.int .i64 k) := c0 _ 0
  have d1 : (w.alloc (.cells #[.int .i64 k, .string s, .int .u64 n, .int .i64 l] 36)).cell? ⟨w.heap.size, 1, none⟩ = some (.string s) := c0 _ 1
  have d2 : (w.alloc (.cells #[.int .i64 k, .string s, .int .u64 n, .int .i64 l] 36)).cell? ⟨w.heap.size, 2, none⟩ = some (.int .u64 n) := c0 _ 2
  clear c0
  have hl := lsize s
  have HW1 : Hid (∀ wx, Calls Tryd.prog 52 #[.string s] wx fun e w' => e = .returned (.bool (wordP s.toList)) ∧ wx = w') := fun wx => refWord_any s hs wx
  have hn1 : n = 0 → (n == 0) = true ∧ (n != 0) = false := fun h => by simp [h]
  have hn2 : ¬ n = 0 → (n == 0) = false ∧ (n != 0) = true := fun h => by simpa using h
  have ht1 : s.size = 0 → s.toList.isEmpty = true ∧ s.toList = [] := fun h => by
    have : s.toList = [] := List.length_eq_zero_iff.1 (by omega)
    rw [this]; exact ⟨rfl, rfl⟩
  have ht2 : ¬ s.size = 0 → s.toList.isEmpty = false ∧ ¬ s.toList = [] := fun h => isEmpty_of h
  by_cases k1 : k = 1
  · subst k1
    cases hw : wordP s.toList
    · have hP : mayP ⟨1, s.toList, n, l⟩ = 53 := by simp [mayP, hw]
      rw [hP]
      rw [hw] at HW1
      clear hP hw hn1 hn2 ht1 ht2 hl
      go_enter Tryd.func39, Tryd.ntmps39
      go_wp2_with (go_at_call 52; refine (HW1.out _).mono ?_; rintro e w1 ⟨rfl, rfl⟩)
      go_ret
      exact ⟨rfl, (Out.refl w).alloc _⟩
    · rw [hw] at HW1
      by_cases hn : n = 0
      · have hP : mayP ⟨1, s.toList, n, l⟩ = 0 := by simp [mayP, hw, hn]
        rw [hP]
        obtain ⟨f1, f2⟩ := hn1 hn
        clear hP hw hn1 hn2 ht1 ht2 hl hn
        go_enter Tryd.func39, Tryd.ntmps39
        go_wp2_with (go_at_call 52; refine (HW1.out _).mono ?_; rintro e w1 ⟨rfl, rfl⟩)
        go_ret
        exact ⟨rfl, (Out.refl w).alloc _⟩
      · have hP : mayP ⟨1, s.toList, n, l⟩ = 52 := by simp [mayP, hw, hn]
        rw [hP]
        obtain ⟨f1, f2⟩ := hn2 hn
        clear hP hw hn1 hn2 ht1 ht2 hl hn
        go_enter Tryd.func39, Tryd.ntmps39
        go_wp2_with (go_at_call 52; refine (HW1.out _).mono ?_; rintro e w1 ⟨rfl, rfl⟩)
        go_ret
        exact ⟨rfl, (Out.refl w).alloc _⟩
  clear HW1
  have j1 : (k == 1) = false := by simpa using k1
  by_cases k2 : k = 2
  · subst k2
    by_cases h0 : s.size = 0
    · have hP : mayP ⟨2, s.toList, n, l⟩ = 53 := by rw [(ht1 h0).2]; rfl
      rw [hP]
      have e1 : ((s.size : Int) == 0) = true := by simp [h0]
      clear hP hn1 hn2 ht1 ht2 hl h0
      go_enter Tryd.func39, Tryd.ntmps39
      go_wp2
      go_ret
      exact ⟨rfl, (Out.refl w).alloc _⟩
    · have e1 : ((s.size : Int) == 0) = false := by simp only [beq_eq_false_iff_ne, ne_eq]; omega
      have h0z : 0 < s.size := by omega
      have h0I : (0 : Int) < s.size := by omega
      have h1I : (1 : Int) ≤ s.size := by omega
      obtain ⟨r, hr⟩ := head_of (s := s) h0z
      have hD : s.toList.drop 1 = r := by rw [hr]; rfl
      have hex : s.extract 1 s.size = ⟨r.toArray⟩ := by
        have hse : s = ⟨s.toList.toArray⟩ := by rw [ByteArray.toList_eq]
        have := ext_drop s.toList 1 (by omega)
        rw [← hse, hl, hD] at this
        exact this
      have hrl : r.length ≤ 4611686018427387904 := by rw [← hD, List.length_drop]; omega
      have HW2 : Hid (∀ wx, Calls Tryd.prog 52 #[.string ⟨r.toArray⟩] wx fun e w' => e = .returned (.bool (wordP r)) ∧ wx = w') := fun wx => by
        have := refWord_any ⟨r.toArray⟩ (by rw [mk_size]; exact hrl) wx
        rw [mk_list r] at this
        exact this
      have hdp : dotP s.toList = (s[0] == 46 && wordP r) := by rw [hr, dot_cons]
      by_cases e0 : s[0] = 46
      · have g1 : ((s[0].toNat : Int) == 46) = true := by rw [e0]; rfl
        have g2 : ((s[0].toNat : Int) != 46) = false := by rw [e0]; rfl
        rw [e0] at hdp
        simp only [beq_self_eq_true, Bool.true_and] at hdp
        clear hr hD e0
        cases hw : wordP r
        · have hP : mayP ⟨2, s.toList, n, l⟩ = 53 := by simp [mayP, hdp, hw]
          rw [hP]
          rw [hw] at HW2
          clear hP hw hdp hn1 hn2 ht1 ht2 hl
          go_enter Tryd.func39, Tryd.ntmps39
          go_wp2_with (go_at_call 52; refine (HW2.out _).mono ?_; rintro e w1 ⟨rfl, rfl⟩)
          go_ret
          exact ⟨rfl, (Out.refl w).alloc _⟩
        · rw [hw] at HW2
          by_cases hn : n = 0
          · have hP : mayP ⟨2, s.toList, n, l⟩ = 0 := by simp [mayP, hdp, hw, hn]
            rw [hP]
            obtain ⟨f1, f2⟩ := hn1 hn
            clear hP hw hdp hn1 hn2 ht1 ht2 hl hn
            go_enter Tryd.func39, Tryd.ntmps39
            go_wp2_with (go_at_call 52; refine (HW2.out _).mono ?_; rintro e w1 ⟨rfl, rfl⟩)
            go_ret
            exact ⟨rfl, (Out.refl w).alloc _⟩
          · have hP : mayP ⟨2, s.toList, n, l⟩ = 52 := by simp [mayP, hdp, hw, hn]
            rw [hP]
            obtain ⟨f1, f2⟩ := hn2 hn
            clear hP hw hdp hn1 hn2 ht1 ht2 hl hn
            go_enter Tryd.func39, Tryd.ntmps39
            go_wp2_with (go_at_call 52; refine (HW2.out _).mono ?_; rintro e w1 ⟨rfl, rfl⟩)
            go_ret
            exact ⟨rfl, (Out.refl w).alloc _⟩
      · have g1 : ((s[0].toNat : Int) == 46) = false := by
          simp only [beq_eq_false_iff_ne]
          intro h
          exact e0 (UInt8.toNat_inj.1 (by show s[0].toNat = 46; omega))
        have g2 : ((s[0].toNat : Int) != 46) = true := by rw [bne, g1]; rfl
        have hP : mayP ⟨2, s.toList, n, l⟩ = 53 := by
          have : dotP s.toList = false := by rw [hdp]; simp [e0]
          simp [mayP, this]
        rw [hP]
        clear hP hr hD e0 hdp hn1 hn2 ht1 ht2 hl HW2 hex
        go_enter Tryd.func39, Tryd.ntmps39
        go_wp2
        go_ret
        exact ⟨rfl, (Out.refl w).alloc _⟩
  have j2 : (k == 2) = false := by simpa using k2
  by_cases k3 : k = 3
  · subst k3
    by_cases h0 : s.size = 0
    · obtain ⟨e1, e2⟩ := ht1 h0
      have hP : mayP ⟨3, s.toList, n, l⟩ = 0 := by simp [mayP, e2]
      rw [hP]
      clear hP e2 hn1 hn2 ht1 ht2 hl h0
      go_enter Tryd.func39, Tryd.ntmps39
      go_wp2
      go_ret
      exact ⟨rfl, (Out.refl w).alloc _⟩
    · obtain ⟨e1, e2⟩ := ht2 h0
      have hP : mayP ⟨3, s.toList, n, l⟩ = 54 := by simp [mayP, e2]
      rw [hP]
      clear hP e2 hn1 hn2 ht1 ht2 hl h0
      go_enter Tryd.func39, Tryd.ntmps39
      go_wp2
      go_ret
      exact ⟨rfl, (Out.refl w).alloc _⟩
  have j3 : (k == 3) = false := by simpa using k3
  by_cases k4 : k = 4
  · subst k4
    by_cases h1 : s.size = 1
    · have e1 : ((s.size : Int) == 1) = true := by simp [h1]
      have e2 : ((s.size : Int) != 1) = false := by simp [h1]
      have h0z : 0 < s.size := by omega
      have h0I : (0 : Int) < s.size := by omega
      obtain ⟨r, hr⟩ := head_of (s := s) h0z
      obtain rfl : r = [] := by
        have := congrArg List.length hr
        rw [hl, h1] at this
        simp at this
        exact this
      have hm : markB s.toList = marI (bI s[0]) := by rw [hr]; exact (kinds ⟨s[0].toNat, s[0].toNat_lt⟩).1.symm
      have HM : Hid (∀ wx, Calls Tryd.prog 53 #[.int .u8 (s[0].toNat : Int)] wx fun e w' => e = .returned (.bool (marI (bI s[0]))) ∧ wx = w') := fun wx => refMark_any (bI s[0]) wx
      rw [← hm] at HM
      clear hr h1 hm
      cases hw : markB s.toList
      · have hP : mayP ⟨4, s.toList, n, l⟩ = 52 := by simp [mayP, hw]
        rw [hP]
        rw [hw] at HM
        clear hP hw hn1 hn2 ht1 ht2 hl
        go_enter Tryd.func39, Tryd.ntmps39
        go_wp2_with (go_at_call 53; refine (HM.out _).mono ?_; rintro e w1 ⟨rfl, rfl⟩)
        go_ret
        exact ⟨rfl, (Out.refl w).alloc _⟩
      · rw [hw] at HM
        by_cases hn : n = 0
        · have hP : mayP ⟨4, s.toList, n, l⟩ = 0 := by simp [mayP, hw, hn]
          rw [hP]
          obtain ⟨f1, f2⟩ := hn1 hn
          clear hP hw hn1 hn2 ht1 ht2 hl hn
          go_enter Tryd.func39, Tryd.ntmps39
          go_wp2_with (go_at_call 53; refine (HM.out _).mono ?_; rintro e w1 ⟨rfl, rfl⟩)
          go_ret
          exact ⟨rfl, (Out.refl w).alloc _⟩
        · have hP : mayP ⟨4, s.toList, n, l⟩ = 52 := by simp [mayP, hw, hn]
          rw [hP]
          obtain ⟨f1, f2⟩ := hn2 hn
          clear hP hw hn1 hn2 ht1 ht2 hl hn
          go_enter Tryd.func39, Tryd.ntmps39
          go_wp2_with (go_at_call 53; refine (HM.out _).mono ?_; rintro e w1 ⟨rfl, rfl⟩)
          go_ret
          exact ⟨rfl, (Out.refl w).alloc _⟩
    · have e1 : ((s.size : Int) == 1) = false := by simp; omega
      have e2 : ((s.size : Int) != 1) = true := by simp; omega
      have hP : mayP ⟨4, s.toList, n, l⟩ = 52 := by
        have : markB s.toList = false := by
          unfold markB
          split
          · rename_i c hc; have := congrArg List.length hc; rw [hl] at this; simp at this; omega
          · rfl
        simp [mayP, this]
      rw [hP]
      clear hP hn1 hn2 ht1 ht2 hl h1
      go_enter Tryd.func39, Tryd.ntmps39
      go_wp2
      go_ret
      exact ⟨rfl, (Out.refl w).alloc _⟩
  have j4 : (k == 4) = false := by simpa using k4
  by_cases k5 : k = 5 ∨ k = 0
  · by_cases h0 : s.size = 0
    · obtain ⟨e1, e2⟩ := ht1 h0
      by_cases hn : n = 0
      · have hP : mayP ⟨k, s.toList, n, l⟩ = 0 := by simp [mayP, k1, k2, k3, k4, k5, e2, hn]
        rw [hP]
        obtain ⟨f1, f2⟩ := hn1 hn
        clear hP e2 hn1 hn2 ht1 ht2 hl h0 hn
        rcases k5 with rfl | rfl
        all_goals (
          go_enter Tryd.func39, Tryd.ntmps39
          go_wp2
          go_ret
          exact ⟨rfl, (Out.refl w).alloc _⟩)
      · have hP : mayP ⟨k, s.toList, n, l⟩ = 52 := by simp [mayP, k1, k2, k3, k4, k5, e2, hn]
        rw [hP]
        obtain ⟨f1, f2⟩ := hn2 hn
        clear hP e2 hn1 hn2 ht1 ht2 hl h0 hn
        rcases k5 with rfl | rfl
        all_goals (
          go_enter Tryd.func39, Tryd.ntmps39
          go_wp2
          go_ret
          exact ⟨rfl, (Out.refl w).alloc _⟩)
    · obtain ⟨e1, e2⟩ := ht2 h0
      have hP : mayP ⟨k, s.toList, n, l⟩ = 52 := by simp [mayP, k1, k2, k3, k4, k5, e2]
      rw [hP]
      clear hP e2 hn1 hn2 ht1 ht2 hl h0
      rcases k5 with rfl | rfl
      all_goals (
        go_enter Tryd.func39, Tryd.ntmps39
        go_wp2
        go_ret
        exact ⟨rfl, (Out.refl w).alloc _⟩)
  · have j5 : (k == 5) = false := by simp only [beq_eq_false_iff_ne]; exact fun h => k5 (.inl h)
    have j0 : (k == 0) = false := by simp only [beq_eq_false_iff_ne]; exact fun h => k5 (.inr h)
    have hP : mayP ⟨k, s.toList, n, l⟩ = 52 := by simp only [mayP, if_neg k1, if_neg k2, if_neg k3, if_neg k4, if_neg k5]
    rw [hP]
    clear hP hn1 hn2 ht1 ht2 hl k1 k2 k3 k4 k5
    go_enter Tryd.func39, Tryd.ntmps39
    go_wp2
    go_ret
    exact ⟨rfl, (Out.refl w).alloc _⟩
end Go.Proofs.YtfhmhdhaibmcfaaDoor
namespace Go.Proofs.YtfhmhdhaibmcfaaDoor
open Go.RowKit
set_option linter.unusedVariables false
set_option linter.unusedSimpArgs false
def writP (x : Tk) : List UInt8 := if x.k = 3 then Lib.decDigits x.n.toNat else x.t
theorem refWritten_any (x : Tk) (hn : 0 ≤ x.n ∧ x.n < 18446744073709551616) (w : World) (hp : Pow w) : Calls Tryd.prog 40 #[.agg #[.int .i64 x.k, .string ⟨x.t.toArray⟩, .int .u64 x.n, .int .i64 x.l]] w fun e w' => e = .returned (.string ⟨(writP x).toArray⟩) ∧ Out w w' := by
  obtain ⟨k, t, n, l⟩ := x
  simp only at hn
  obtain ⟨u, rfl⟩ : ∃ u : Nat, n = u := ⟨n.toNat, by omega⟩
  have c0 : ∀ cs : Array Value, ∀ j, (w.alloc (.cells cs 36)).cell? ⟨w.heap.size, j, none⟩ = cs[j]? := fun cs j => cell_fresh _ _ _ _ _ rfl
  have d0 : (w.alloc (.cells #[.int .i64 k, .string ⟨t.toArray⟩, .int .u64 (u : Int), .int .i64 l] 36)).cell? ⟨w.heap.size, 0, none⟩ = some (.int .i64 k) := c0 _ 0
  have d1 : (w.alloc (.cells #[.int .i64 k, .string ⟨t.toArray⟩, .int .u64 (u : Int), .int .i64 l] 36)).cell? ⟨w.heap.size, 1, none⟩ = some (.string ⟨t.toArray⟩) := c0 _ 1
  have d2 : (w.alloc (.cells #[.int .i64 k, .string ⟨t.toArray⟩, .int .u64 (u : Int), .int .i64 l] 36)).cell? ⟨w.heap.size, 2, none⟩ = some (.int .u64 (u : Int)) := c0 _ 2
  have HO : Hid (Out w (w.alloc (.cells #[.int .i64 k, .string ⟨t.toArray⟩, .int .u64 (u : Int), .int .i64 l] 36))) := (Out.refl w).alloc _
  have CF := hidOf (fmt_any u (by omega) _ (hp.out HO.out))
  clear c0
  by_cases k3 : k = 3
  · have hW : writP ⟨k, t, u, l⟩ = Lib.decDigits u := by unfold writP; rw [if_pos k3]; rfl
    rw [hW]
    subst k3
    generalize Lib.decDigits u = D at *
    clear hW
    go_enter Tryd.func40, Tryd.ntmps40
    go_wp2_with (go_at_call 50; refine CF.out.mono ?_; rintro e w1 ⟨rfl, ho⟩; have O1 := hidOf (Out.trans HO.out ho); clear ho)
    go_ret
    exact ⟨rfl, O1.out⟩
  · have hW : writP ⟨k, t, u, l⟩ = t := by unfold writP; rw [if_neg k3]
    rw [hW]
    have j3 : (k == 3) = false := by simpa using k3
    clear hW CF
    go_enter Tryd.func40, Tryd.ntmps40
    go_wp2
    go_ret
    exact ⟨rfl, HO.out⟩
/-- the writer against the reference's two lists -/
structure UR (s : WS) (O Ln : List UInt8) : Prop where
  line : s.line = Ln.length
  size : s.size = O.length + Ln.length
  l_ : s.size ≤ 16777216 → s.l = O ++ Ln
theorem UR.put {s : WS} {O Ln : List UInt8} (h : UR s O Ln) (t : List UInt8) : UR (s.put t) O (Ln ++ t) := by
  refine ⟨?_, ?_, fun hs => ?_⟩
  · show s.line + t.length = _; rw [h.line]; simp
  · show s.size + t.length = _; rw [h.size]; simp; omega
  · have hs' : s.size + t.length ≤ 16777216 := hs
    show (if s.size + t.length ≤ 16777216 then s.l ++ t else s.l) = _
    rw [if_pos hs', h.l_ (by omega), List.append_assoc]
theorem UR.piece {s : WS} {O Ln : List UInt8} (h : UR s O Ln) (t : List UInt8) : UR (s.piece t) O ((if 0 < Ln.length then Ln ++ [32] else Ln) ++ t) := by
  unfold WS.piece
  rw [h.line]
  split
  · exact (h.put _).put _
  · exact h.put _
theorem UR.eol {s : WS} {O Ln : List UInt8} (h : UR s O Ln) : UR ⟨(s.put [10]).l, (s.put [10]).size, 0⟩ ((O ++ Ln) ++ [10]) [] := by
  have h1 := h.put [10]
  refine ⟨rfl, ?_, fun hs => ?_⟩
  · show (s.put [10]).size = _; rw [h1.size]; simp [Nat.add_assoc]
  · show (s.put [10]).l = _; rw [h1.l_ hs]; simp
theorem may_kinds {x : Tk} (h : mayP x = 0) : x.k = 0 ∨ x.k = 1 ∨ x.k = 2 ∨ x.k = 3 ∨ x.k = 4 ∨ x.k = 5 := by
  unfold mayP at h
  by_cases k1 : x.k = 1
  · exact .inr (.inl k1)
  by_cases k2 : x.k = 2
  · exact .inr (.inr (.inl k2))
  by_cases k3 : x.k = 3
  · exact .inr (.inr (.inr (.inl k3)))
  by_cases k4 : x.k = 4
  · exact .inr (.inr (.inr (.inr (.inl k4))))
  by_cases k5 : x.k = 5 ∨ x.k = 0
  · rcases k5 with k | k
    · exact .inr (.inr (.inr (.inr (.inr k))))
    · exact .inl k
  · rw [if_neg k1, if_neg k2, if_neg k3, if_neg k4, if_neg k5] at h; cases h
theorem rtok_piece {x : Tk} (s : WS) (h : mayP x = 0) (h5 : ¬ x.k = 5) (h0 : ¬ x.k = 0) : s.tok x = s.piece (writP x) := by
  unfold WS.tok writP
  rcases may_kinds h with k | k | k | k | k | k
  · exact absurd k h0
  · rw [if_pos (.inl k), if_neg (by omega)]
  · rw [if_pos (.inr (.inl k)), if_neg (by omega)]
  · rw [if_neg (by omega), if_pos k, if_pos k]
  · rw [if_pos (.inr (.inr k)), if_neg (by omega)]
  · exact absurd k h5
theorem rtok_line {x : Tk} (s : WS) (h5 : x.k = 5) : s.tok x = ⟨(s.put [10]).l, (s.put [10]).size, 0⟩ := by
  unfold WS.tok
  rw [if_neg (by omega), if_neg (by omega), if_pos h5]
theorem rtok_end {x : Tk} (s : WS) (h0 : x.k = 0) : s.tok x = s := by
  unfold WS.tok
  rw [if_neg (by omega), if_neg (by omega), if_neg (by omega)]
theorem writ_len {x : Tk} (h : mayP x = 0) (hn : 0 ≤ x.n ∧ x.n < 18446744073709551616) : (writP x).length ≤ 65 := by
  unfold writP
  split
  · have := dd_len 19 x.n.toNat (by omega); omega
  · exact may_len h
end Go.Proofs.YtfhmhdhaibmcfaaDoor
namespace Go.Proofs.YtfhmhdhaibmcfaaDoor
open Go.RowKit
set_option linter.unusedVariables false
set_option linter.unusedSimpArgs false
/-- behind the reference's Untoken -/
def UnEnd (w : World) (r : List UInt8 × Int) (e : Ending) (w' : World) : Prop := e = .returned (.tuple #[.string ⟨r.1.toArray⟩, .int .i64 r.2]) ∧ Out w w'
theorem lastK_none {ts : List Tk} (h : ∀ x ∈ ts, ¬ x.k = 0) : ¬ lastK ts = some 0 := by
  unfold lastK
  cases hl : ts.getLast? with
  | none => simp
  | some x =>
    simp only [Option.map_some, Option.some.injEq]
    exact h x (List.mem_of_getLast? hl)
theorem str_bcU (t : List UInt8) : Lib.strCells ⟨t.toArray⟩ = Lib.byteCells t := by simp [Lib.strCells, Lib.byteCells]
theorem OwB.nil (B : Nat) (w : World) : OwB B (.slice none 0 0) [] w := World.ownsRow_nil _ _ _ _
set_option maxRecDepth 20000 in
set_option maxHeartbeats 3000000 in
theorem refUntoken_any (w : World) (hp : Pow w) (a : Option Addr) (cap : Nat) (ts : List Tk) (h : TksAt w a ts) (hl : ts.length ≤ 1000000000) (hn : NumsOk ts) :
    Calls Tryd.prog 25 #[.slice a ts.length cap] w fun e w' => UnEnd w (untokP ts) e w' := by
  have HX := hidOf h
  have HP := hidOf hp
  have HN := hidOf hn
  obtain ⟨i0, hi, hz0, hz1, hz2⟩ := info_parts infoB
  obtain ⟨R, HR⟩ : ∃ R, Hid (R = untokP ts) := ⟨_, hidOf rfl⟩
  rw [← HR.out]
  clear h hp hn
  go_enter Tryd.func25, Tryd.ntmps25
  go_wp2
  go_loopw [4, 5, 6] (fun ov lv iv wr => ∃ (i : Nat) (O Ln : List UInt8) (oa la : Option Addr) (oc lc B1 : Nat) (s : WS), ov = .slice oa O.length oc ∧ lv = .slice la Ln.length lc ∧ iv = .int .i64 i ∧ i ≤ ts.length ∧ O.length + Ln.length ≤ i * 100 ∧ Hid (unF true ⟨[], 0, 0⟩ ts = unF (okAt ts i) s (ts.drop i)) ∧ Hid (UR s O Ln) ∧ Hid (okAt ts i = true → Ln = []) ∧ Hid (∀ x ∈ ts.take i, ¬ x.k = 0) ∧ Hid (OwB w.heap.size (.slice oa O.length oc) O wr) ∧ Hid (OwB B1 (.slice la Ln.length lc) Ln wr) ∧ Hid (w.heap.size ≤ B1 ∧ B1 ≤ wr.heap.size ∧ ∀ k, (Value.slice oa O.length oc).ownBlock = some k → k < B1) ∧ Hid (Out w wr)) (fun _ _ iv _ => ts.length - (intOf iv).toNat)
  case atStart => exact ⟨0, [], [], none, none, 0, 0, w.heap.size, ⟨[], 0, 0⟩, rfl, rfl, rfl, by omega, by simp, hidOf rfl, hidOf ⟨rfl, rfl, fun _ => rfl⟩, hidOf (fun _ => rfl), hidOf (fun x hx => by simp at hx), hidOf (OwB.nil _ _), hidOf (OwB.nil _ _), hidOf ⟨Nat.le_refl _, Nat.le_refl _, fun k hk => by cases hk⟩, hidOf (Out.refl w)⟩
  case round =>
    obtain ⟨i, O, Ln, oa, la, oc, lc, B1, s, rfl, rfl, rfl, hi2, hOL, HU, HS, HK, HZ, HO1, HL1, HB, HO⟩ := hrel
    by_cases hlt : i < ts.length
    · have hltI : (i : Int) < ts.length := by omega
      obtain ⟨x, hx⟩ : ∃ x, ts[i]? = some x := ⟨_, List.getElem?_eq_getElem hlt⟩
      obtain ⟨b, o, rfl, hc⟩ := HX.out.at (fun e => by rw [e] at hlt; simp at hlt)
      obtain ⟨q0, q1, q2, q3⟩ := hc i x hx
      have q0 := cell_later HO.out q0
      have q1 := cell_later HO.out q1
      have q2 := cell_later HO.out q2
      have q3 := cell_later HO.out q3
      have hxm := List.mem_of_getElem? hx
      have hxn := HN.out x hxm
      have Hdr := hidOf (drop_at hx)
      have Hx := hidOf hx
      have CM : Hid (∀ wx, Calls Tryd.prog 39 #[.agg #[.int .i64 x.k, .string ⟨x.t.toArray⟩, .int .u64 x.n, .int .i64 x.l]] wx fun e w' => e = .returned (.int .i64 (mayP x)) ∧ Out wx w') := fun wx => by
        have := refMay_any x.k ⟨x.t.toArray⟩ x.n x.l wx (by rw [mk_size]; omega)
        rw [mk_list x.t] at this
        exact this
      have HU2 : Hid (unF true ⟨[], 0, 0⟩ ts = if mayP x = 0 then (if x.k = 0 ∧ ¬ (ts.drop (i + 1) = [] ∧ okAt ts i = true) then (52, s) else if x.k = 5 ∧ 1024 < s.line then (51, s) else unF (decide (x.k = 5)) (s.tok x) (ts.drop (i + 1))) else (mayP x, s)) := by
        rw [HU.out, Hdr.out]; exact hidOf rfl
      have HCp : Hid (∀ k x, ts[k]? = some x → w.cell? ⟨b, o + k * 4, none⟩ = some (.int .i64 x.k)) := fun k y hy => (hc k y hy).1
      have HC4 : Hid (∀ wx, Out w wx → wx.cell? ⟨b, o + i * 4, none⟩ = some (.int .i64 x.k) ∧ wx.cell? ⟨b, o + i * 4 + 1, none⟩ = some (.string ⟨x.t.toArray⟩) ∧ wx.cell? ⟨b, o + i * 4 + 2, none⟩ = some (.int .u64 x.n) ∧ wx.cell? ⟨b, o + i * 4 + 3, none⟩ = some (.int .i64 x.l)) := fun wx ho => ⟨cell_later ho (hc i x hx).1, cell_later ho (hc i x hx).2.1, cell_later ho (hc i x hx).2.2.1, cell_later ho (hc i x hx).2.2.2⟩
      clear hc hx hxm
      by_cases hm : mayP x = 0
      · rw [hm] at CM
        rw [hm, if_pos rfl] at HU2
        by_cases k0 : x.k = 0
        · have f0 : (x.k == 0) = true := by simp [k0]
          have f0' : x.k == 0 := by simp [k0]
          by_cases hi0 : i = 0
          · have hok : okAt ts i = true := by simp [okAt, hi0]
            have hiI : ¬ (0 : Int) < i := by omega
            clear hOL hi0
            by_cases hlast : i + 1 = ts.length
            · have hlI : ¬ (i : Int) < (ts.length : Int) - 1 := by omega
              have hdr : ts.drop (i + 1) = [] := List.drop_of_length_le (by omega)
              have hLn := HK.out hok
              have hsz : s.size = O.length := by rw [HS.out.size, hLn]; simp
              have hsl : s.size ≤ 16777216 → s.l = O := fun h => by rw [HS.out.l_ h, hLn]; simp
              have HU3 : unF true ⟨[], 0, 0⟩ ts = (0, s) := by
                rw [HU2.out, if_neg (fun h => h.2 ⟨hdr, hok⟩), if_neg (fun h => by have := h.1; omega), hdr, rtok_end s k0]; rfl
              have hlk : lastK ts = some 0 := by rw [lastK_at hlast.symm Hx.out, k0]
              by_cases hbig : 16777216 < O.length
              · have hbI : (16777216 : Int) < O.length := by omega
                have hR : R = ([], 50) := by
                  rw [HR.out]; unfold untokP
                  rw [HU3, if_pos rfl, if_pos hlk, if_neg (by simp only [hsz]; omega)]
                have HRf := hidOf hR
                clear hR HU2 HU3 hlk hsl hsz hLn hdr k0 hbig
                go_wp2_with (go_at_call 39; refine (CM.out _).mono ?_; rintro e w1 ⟨rfl, ho⟩; have P1 := hidOf ho; have O1 := hidOf (Out.trans HO.out ho); have p0 := cell_later ho q0; clear ho)
                go_ret2
                exact ⟨by rw [HRf.out]; rfl, O1.out⟩
              · have hbI : ¬ (16777216 : Int) < O.length := by omega
                have hR : R = (O, 0) := by
                  rw [HR.out]; unfold untokP
                  rw [HU3, if_pos rfl, if_pos hlk, if_pos (by simp only [hsz]; omega)]
                  simp only
                  rw [hsl (by omega)]
                have HRf := hidOf hR
                have hcv : ∀ wx, Out wr wx → (convert 22 9 (.slice oa O.length oc)).run Tryd.prog wx = .ok (.string ⟨O.toArray⟩) wx := fun wx ho => by
                  obtain ⟨a2, c2, he, _, hr2⟩ := OwB.rest (HO1.out.out ho)
                  simp only [Value.slice.injEq] at he
                  obtain ⟨rfl, _, rfl⟩ := he
                  exact conv_rest hr2 _
                have HCV := hidOf hcv
                clear hR HU2 HU3 hlk hsl hsz hLn hdr k0 hbig hcv
                go_wp2_with (go_at_call 39; refine (CM.out _).mono ?_; rintro e w1 ⟨rfl, ho⟩; have P1 := hidOf ho; have O1 := hidOf (Out.trans HO.out ho); have p0 := cell_later ho q0; have hcv := HCV.out w1 P1.out; clear ho)
                go_ret2
                exact ⟨by rw [HRf.out]; rfl, O1.out⟩
            · have hlI : (i : Int) < (ts.length : Int) - 1 := by omega
              have HU3 : unF true ⟨[], 0, 0⟩ ts = (52, s) := by
                have h := HU2.out
                rw [if_pos (⟨k0, fun h => by have := congrArg List.length h.1; simp at this; omega⟩ : x.k = 0 ∧ ¬ (ts.drop _ = [] ∧ okAt ts _ = true))] at h
                exact h
              have hR : R = ([], 52) := by
                rw [HR.out]; unfold untokP
                rw [HU3, if_neg (show ¬ (52 : Int) = 0 by decide)]
              have HRf := hidOf hR
              clear hR HU2 HU3 k0
              go_wp2_with (go_at_call 39; refine (CM.out _).mono ?_; rintro e w1 ⟨rfl, ho⟩; have P1 := hidOf ho; have O1 := hidOf (Out.trans HO.out ho); have p0 := cell_later ho q0; clear ho)
              go_ret2
              exact ⟨by rw [HRf.out]; rfl, O1.out⟩
          · obtain ⟨j, rfl⟩ : ∃ j, i = j + 1 := ⟨i - 1, by omega⟩
            obtain ⟨y, hy⟩ : ∃ y, ts[j]? = some y := ⟨_, List.getElem?_eq_getElem (by omega)⟩
            have r0 := cell_later HO.out (HCp.out j y hy)
            have hok0 : okAt ts (j + 1) = decide (y.k = 5) := okAt_succ hy
            have hiI : (0 : Int) < (j : Int) + 1 := by omega
            have hjI : (j : Int) < ts.length := by omega
            clear hy
            by_cases y5 : y.k = 5
            · have hok : okAt ts (j + 1) = true := by rw [hok0]; simp [y5]
              have g5 : (y.k == 5) = true := by simp [y5]
              have g5' : (y.k != 5) = false := by simp [y5]
              generalize y.k = yk at *
              clear y5 hok0
              by_cases hlast : j + 1 + 1 = ts.length
              · have hlI : ¬ (j : Int) + 1 < (ts.length : Int) - 1 := by omega
                have hdr : ts.drop (j + 1 + 1) = [] := List.drop_of_length_le (by omega)
                have hLn := HK.out hok
                have hsz : s.size = O.length := by rw [HS.out.size, hLn]; simp
                have hsl : s.size ≤ 16777216 → s.l = O := fun h => by rw [HS.out.l_ h, hLn]; simp
                have HU3 : unF true ⟨[], 0, 0⟩ ts = (0, s) := by
                  rw [HU2.out, if_neg (fun h => h.2 ⟨hdr, hok⟩), if_neg (fun h => by have := h.1; omega), hdr, rtok_end s k0]; rfl
                have hlk : lastK ts = some 0 := by rw [lastK_at hlast.symm Hx.out, k0]
                by_cases hbig : 16777216 < O.length
                · have hbI : (16777216 : Int) < O.length := by omega
                  have hR : R = ([], 50) := by
                    rw [HR.out]; unfold untokP
                    rw [HU3, if_pos rfl, if_pos hlk, if_neg (by simp only [hsz]; omega)]
                  have HRf := hidOf hR
                  clear hR HU2 HU3 hlk hsl hsz hLn hdr k0 hbig
                  go_wp2_with (go_at_call 39; refine (CM.out _).mono ?_; rintro e w1 ⟨rfl, ho⟩; have P1 := hidOf ho; have O1 := hidOf (Out.trans HO.out ho); have p0 := cell_later ho q0; have r1 := cell_later ho r0; clear ho)
                  go_ret2
                  exact ⟨by rw [HRf.out]; rfl, O1.out⟩
                · have hbI : ¬ (16777216 : Int) < O.length := by omega
                  have hR : R = (O, 0) := by
                    rw [HR.out]; unfold untokP
                    rw [HU3, if_pos rfl, if_pos hlk, if_pos (by simp only [hsz]; omega)]
                    simp only
                    rw [hsl (by omega)]
                  have HRf := hidOf hR
                  have hcv : ∀ wx, Out wr wx → (convert 22 9 (.slice oa O.length oc)).run Tryd.prog wx = .ok (.string ⟨O.toArray⟩) wx := fun wx ho => by
                    obtain ⟨a2, c2, he, _, hr2⟩ := OwB.rest (HO1.out.out ho)
                    simp only [Value.slice.injEq] at he
                    obtain ⟨rfl, _, rfl⟩ := he
                    exact conv_rest hr2 _
                  have HCV := hidOf hcv
                  clear hR HU2 HU3 hlk hsl hsz hLn hdr k0 hbig hcv
                  go_wp2_with (go_at_call 39; refine (CM.out _).mono ?_; rintro e w1 ⟨rfl, ho⟩; have P1 := hidOf ho; have O1 := hidOf (Out.trans HO.out ho); have p0 := cell_later ho q0; have r1 := cell_later ho r0; have hcv := HCV.out w1 P1.out; clear ho)
                  go_ret2
                  exact ⟨by rw [HRf.out]; rfl, O1.out⟩
              · have hlI : (j : Int) + 1 < (ts.length : Int) - 1 := by omega
                have HU3 : unF true ⟨[], 0, 0⟩ ts = (52, s) := by
                  have h := HU2.out
                  rw [if_pos (⟨k0, fun h => by have := congrArg List.length h.1; simp at this; omega⟩ : x.k = 0 ∧ ¬ (ts.drop _ = [] ∧ okAt ts _ = true))] at h
                  exact h
                have hR : R = ([], 52) := by
                  rw [HR.out]; unfold untokP
                  rw [HU3, if_neg (show ¬ (52 : Int) = 0 by decide)]
                have HRf := hidOf hR
                clear hR HU2 HU3 k0
                go_wp2_with (go_at_call 39; refine (CM.out _).mono ?_; rintro e w1 ⟨rfl, ho⟩; have P1 := hidOf ho; have O1 := hidOf (Out.trans HO.out ho); have p0 := cell_later ho q0; have r1 := cell_later ho r0; clear ho)
                go_ret2
                exact ⟨by rw [HRf.out]; rfl, O1.out⟩
            · have hok : okAt ts (j + 1) = false := by rw [hok0]; simp [y5]
              have g5 : (y.k == 5) = false := by simpa using y5
              have g5' : (y.k != 5) = true := by simpa using y5
              generalize y.k = yk at *
              clear y5 hok0
              by_cases hlast : j + 1 + 1 = ts.length
              · have hlI : ¬ (j : Int) + 1 < (ts.length : Int) - 1 := by omega
                have HU3 : unF true ⟨[], 0, 0⟩ ts = (52, s) := by
                  have h := HU2.out
                  rw [if_pos (⟨k0, fun h => by rw [hok] at h; cases h.2⟩ : x.k = 0 ∧ ¬ (ts.drop _ = [] ∧ okAt ts _ = true))] at h
                  exact h
                have hR : R = ([], 52) := by
                  rw [HR.out]; unfold untokP
                  rw [HU3, if_neg (show ¬ (52 : Int) = 0 by decide)]
                have HRf := hidOf hR
                clear hR HU2 HU3 k0
                go_wp2_with (go_at_call 39; refine (CM.out _).mono ?_; rintro e w1 ⟨rfl, ho⟩; have P1 := hidOf ho; have O1 := hidOf (Out.trans HO.out ho); have p0 := cell_later ho q0; have r1 := cell_later ho r0; clear ho)
                go_ret2
                exact ⟨by rw [HRf.out]; rfl, O1.out⟩
              · have hlI : (j : Int) + 1 < (ts.length : Int) - 1 := by omega
                have HU3 : unF true ⟨[], 0, 0⟩ ts = (52, s) := by
                  have h := HU2.out
                  rw [if_pos (⟨k0, fun h => by have := congrArg List.length h.1; simp at this; omega⟩ : x.k = 0 ∧ ¬ (ts.drop _ = [] ∧ okAt ts _ = true))] at h
                  exact h
                have hR : R = ([], 52) := by
                  rw [HR.out]; unfold untokP
                  rw [HU3, if_neg (show ¬ (52 : Int) = 0 by decide)]
                have HRf := hidOf hR
                clear hR HU2 HU3 k0
                go_wp2_with (go_at_call 39; refine (CM.out _).mono ?_; rintro e w1 ⟨rfl, ho⟩; have P1 := hidOf ho; have O1 := hidOf (Out.trans HO.out ho); have p0 := cell_later ho q0; have r1 := cell_later ho r0; clear ho)
                go_ret2
                exact ⟨by rw [HRf.out]; rfl, O1.out⟩
        · by_cases k5 : x.k = 5
          · have f5 : (x.k == 5) = true := by simp [k5]
            have f0 : (x.k == 0) = false := by simp only [beq_eq_false_iff_ne]; exact k0
            by_cases hbig : 1024 < Ln.length
            · have hbI : (1024 : Int) < Ln.length := by omega
              have HU3 : unF true ⟨[], 0, 0⟩ ts = (51, s) := by
                have h := HU2.out
                rw [if_neg (fun h => k0 h.1), if_pos ⟨k5, by rw [HS.out.line]; exact hbig⟩] at h
                exact h
              have hR : R = ([], 51) := by
                rw [HR.out]; unfold untokP
                rw [HU3, if_neg (show ¬ (51 : Int) = 0 by decide)]
              have HRf := hidOf hR
              generalize x.k = xk at *
              clear hR HU2 HU3 k0 k5 hbig
              go_wp2_with (go_at_call 39; refine (CM.out _).mono ?_; rintro e w1 ⟨rfl, ho⟩; have P1 := hidOf ho; have O1 := hidOf (Out.trans HO.out ho); have p0 := cell_later ho q0; clear ho)
              go_ret2
              exact ⟨by rw [HRf.out]; rfl, O1.out⟩
            · have hbI : ¬ (1024 : Int) < Ln.length := by omega
              have HU3 : Hid (unF true ⟨[], 0, 0⟩ ts = unF (okAt ts (i + 1)) ⟨(s.put [10]).l, (s.put [10]).size, 0⟩ (ts.drop (i + 1))) := by
                have h := HU2.out
                rw [if_neg (fun h => k0 h.1), if_neg (fun h => hbig (by have := h.2; rw [HS.out.line] at this; exact this)), rtok_line s k5, ← okAt_succ Hx.out] at h
                exact hidOf h
              have HS2 := hidOf HS.out.eol
              have HZ2 : Hid (∀ x ∈ ts.take (i + 1), ¬ x.k = 0) := fun y hy => by
                rw [List.take_add_one, Hx.out] at hy
                rcases List.mem_append.1 hy with h | h
                · exact HZ.out y h
                · simp at h; rw [h]; exact k0
              generalize x.k = xk at *
              obtain ⟨P, hP⟩ : ∃ P, P = O ++ Ln := ⟨_, rfl⟩
              have hPl : P.length = O.length + Ln.length := by rw [hP]; simp
              obtain ⟨Z, hZ⟩ : ∃ Z, Z = P ++ [10] := ⟨_, rfl⟩
              have hZl : Z.length = P.length + 1 := by rw [hZ]; simp
              rw [← hP, ← hZ] at HS2
              have HPe := hidOf hP
              have HPl := hidOf hPl
              have HZe := hidOf hZ
              have HZl := hidOf hZl
              have hPb : P.length ≤ i * 100 := by omega
              clear hP hPl hZ hZl HU2 k0 k5 hbig
              have hB0 := HB.out.2.1
              have FIN : Hid (∀ v' w6, OwB w.heap.size v' Z w6 → Out w w6 → ∃ ad cp, v' = .slice ad Z.length cp ∧ ∀ k, v'.ownBlock = some k → k < w6.heap.size) := fun v' w6 h1 h2 => by
                obtain ⟨ad, cp, e⟩ := own_form h1
                exact ⟨ad, cp, e, fun k hk => (World.ownsRow.lt h1 k hk).2⟩
              cases la with
              | none =>
                obtain rfl : Ln = [] := by
                  rcases HL1.out.2 with ⟨_, h⟩ | ⟨g, cp, cur, h, _⟩
                  · exact List.length_eq_zero_iff.1 h
                  · cases h
                have hPO : Hid (P = O) := by rw [HPe.out]; exact hidOf (by simp)
                obtain rfl : P = O := hPO.out
                simp only [List.length_nil] at hbI
                have hlc0 : lc = 0 := by
                  rcases HL1.out.2 with ⟨h, _⟩ | ⟨g, cp, cur, h, _⟩
                  · simp only [Value.slice.injEq] at h; exact h.2.2
                  · cases h
                subst hlc0
                cases oa with
                | none =>
                  obtain ⟨rfl, rfl⟩ : P = [] ∧ oc = 0 := by
                    rcases HO1.out.2 with ⟨h, h2⟩ | ⟨g, cp, cur, h, _⟩
                    · simp only [Value.slice.injEq] at h; exact ⟨List.length_eq_zero_iff.1 h2, h.2.2⟩
                    · cases h
                  simp only [List.length_nil] at HO1 hPb
                  go_upto_region 20 with (go_at_call 39; refine (CM.out _).mono ?_; rintro e w1 ⟨rfl, ho⟩; have P1 := hidOf ho; have O1 := hidOf (Out.trans HO.out ho); have p0 := cell_later ho q0; clear ho)
                  have HO2 := hidOf (HO1.out.out P1.out)
                  go_wp2_with (at_builtin; refine wpList_append_own _ rfl (.tmp 65) (.tmp 66) 22 rfl w.heap.size 5 i0 _ 1 1 Tryd.underlying22 hi hz0 hz1 hz2 rfl (by decide) (.slice none 0 0) 0 ([]) rfl (HO2.out.out ((Out.refl w1).alloc _)) ⟨w1.heap.size, 0, none⟩ 1 1 [.int .u8 10] rfl rfl (news_new w1 _ _ _ rfl) (fun u hu => by rw [List.mem_singleton.1 hu]; rfl) (by unfold maxLen; omega) (by omega) (by have := O1.out.size; rw [size_alloc]; omega) ?_; intro v' w6 hown' hgrow _; have O6 := hidOf (out_own rfl (HO2.out.out ((Out.refl w1).alloc _)) (O1.out.alloc _) hgrow); have HN6 : Hid (OwB w.heap.size v' Z w6) := OwB.mk (P := [10]) hown' HZe.out HZl.out.symm; obtain ⟨za, zc, rfl, hzb⟩ := FIN.out v' w6 HN6.out O6.out; have HZB := hidOf hzb; clear hown' hgrow hzb)
                  go_roundw
                  case rel => exact ⟨i + 1, Z, [], za, none, zc, 0, w6.heap.size, _, rfl, rfl, by simp, by omega, by have := HZl.out; simp; omega, HU3, HS2, hidOf (fun _ => rfl), HZ2, HN6, hidOf (OwB.nil _ _), hidOf ⟨O6.out.size, Nat.le_refl _, HZB.out⟩, O6⟩
                  case measure => simp [intOf]; omega
                | some oad =>
                  have hPoc : P.length ≤ oc := by
                    obtain ⟨a2, c2, he, h2, _⟩ := OwB.rest HO1.out
                    simp only [Value.slice.injEq] at he
                    rw [he.2.2]; exact h2
                  go_upto_region 20 with (go_at_call 39; refine (CM.out _).mono ?_; rintro e w1 ⟨rfl, ho⟩; have P1 := hidOf ho; have O1 := hidOf (Out.trans HO.out ho); have p0 := cell_later ho q0; clear ho)
                  have HO2 := hidOf (HO1.out.out P1.out)
                  go_wp2_with (at_builtin; refine wpList_append_own _ rfl (.tmp 65) (.tmp 66) 22 rfl w.heap.size 5 i0 _ 1 1 Tryd.underlying22 hi hz0 hz1 hz2 rfl (by decide) (.slice (some oad) P.length oc) P.length (Lib.byteCells P) rfl (HO2.out.out ((Out.refl w1).alloc _)) ⟨w1.heap.size, 0, none⟩ 1 1 [.int .u8 10] rfl rfl (news_new w1 _ _ _ rfl) (fun u hu => by rw [List.mem_singleton.1 hu]; rfl) (by unfold maxLen; omega) (by omega) (by have := O1.out.size; rw [size_alloc]; omega) ?_; intro v' w6 hown' hgrow _; have O6 := hidOf (out_own rfl (HO2.out.out ((Out.refl w1).alloc _)) (O1.out.alloc _) hgrow); have HN6 : Hid (OwB w.heap.size v' Z w6) := OwB.mk (P := [10]) hown' HZe.out HZl.out.symm; obtain ⟨za, zc, rfl, hzb⟩ := FIN.out v' w6 HN6.out O6.out; have HZB := hidOf hzb; clear hown' hgrow hzb)
                  go_roundw
                  case rel => exact ⟨i + 1, Z, [], za, none, zc, 0, w6.heap.size, _, rfl, rfl, by simp, by omega, by have := HZl.out; simp; omega, HU3, HS2, hidOf (fun _ => rfl), HZ2, HN6, hidOf (OwB.nil _ _), hidOf ⟨O6.out.size, Nat.le_refl _, HZB.out⟩, O6⟩
                  case measure => simp [intOf]; omega
              | some ad =>
                obtain ⟨g, rfl, hlc⟩ : ∃ g, ad = ⟨g, 0, none⟩ ∧ ∀ wx, Out wr wx → ∀ j u, (Lib.byteCells Ln)[j]? = some u → wx.cell? ((⟨g, 0, none⟩ : Addr).add j) = some u := by
                  rcases HL1.out.2 with ⟨h, _⟩ | ⟨g, cp, cur, h, _⟩
                  · cases h
                  · simp only [Value.slice.injEq, Option.some.injEq] at h
                    exact ⟨g, h.1, fun wx ho => World.ownsRow.cells (HL1.out.out ho) (g := g) (by rw [h.1]; rfl)⟩
                have HLC := hidOf hlc
                clear hlc
                go_upto_region 19 with (go_at_call 39; refine (CM.out _).mono ?_; rintro e w1 ⟨rfl, ho⟩; have P1 := hidOf ho; have O1 := hidOf (Out.trans HO.out ho); have p0 := cell_later ho q0; clear ho)
                have HO2 := hidOf (HO1.out.out P1.out)
                go_upto_region 20 with (at_builtin; refine wpList_append_own _ rfl (.tmp 62) (.tmp 63) 22 rfl w.heap.size 5 i0 _ 1 1 Tryd.underlying22 hi hz0 hz1 hz2 rfl (by decide) (.slice oa O.length oc) O.length (Lib.byteCells O) rfl HO2.out ⟨g, 0, none⟩ Ln.length lc (Lib.byteCells Ln) rfl (by rw [Lib.byteCells_length, Nat.mul_one]) (HLC.out w1 P1.out) (bc_one Ln) (by unfold maxLen; omega) (by omega) O1.out.size ?_; intro v' w2 hown' hgrow _; have O2 := hidOf (out_own rfl HO2.out O1.out hgrow); have HN2 : Hid (OwB w.heap.size v' P w2) := OwB.mk hown' HPe.out HPl.out.symm; obtain ⟨pa, pc, rfl⟩ : ∃ ad cp, v' = .slice ad P.length cp := own_form HN2.out; clear hown' hgrow)
                go_wp2_with (at_builtin; refine wpList_append_own _ rfl (.tmp 65) (.tmp 66) 22 rfl w.heap.size 5 i0 _ 1 1 Tryd.underlying22 hi hz0 hz1 hz2 rfl (by decide) (.slice pa P.length pc) P.length (Lib.byteCells P) rfl (HN2.out.out ((Out.refl w2).alloc _)) ⟨w2.heap.size, 0, none⟩ 1 1 [.int .u8 10] rfl rfl (news_new w2 _ _ _ rfl) (fun u hu => by rw [List.mem_singleton.1 hu]; rfl) (by unfold maxLen; omega) (by omega) (by have := O2.out.size; rw [size_alloc]; omega) ?_; intro v' w6 hown' hgrow _; have O6 := hidOf (out_own rfl (HN2.out.out ((Out.refl w2).alloc _)) (O2.out.alloc _) hgrow); have HN6 : Hid (OwB w.heap.size v' Z w6) := OwB.mk (P := [10]) hown' HZe.out HZl.out.symm; obtain ⟨za, zc, rfl, hzb⟩ := FIN.out v' w6 HN6.out O6.out; have HZB := hidOf hzb; clear hown' hgrow hzb)
                go_roundw
                case rel => exact ⟨i + 1, Z, [], za, none, zc, 0, w6.heap.size, _, rfl, rfl, by simp, by omega, by have := HZl.out; simp; omega, HU3, HS2, hidOf (fun _ => rfl), HZ2, HN6, hidOf (OwB.nil _ _), hidOf ⟨O6.out.size, Nat.le_refl _, HZB.out⟩, O6⟩
                case measure => simp [intOf]; omega
          · have f5 : (x.k == 5) = false := by simp only [beq_eq_false_iff_ne]; exact k5
            have f0 : (x.k == 0) = false := by simp only [beq_eq_false_iff_ne]; exact k0
            have hWl := writ_len hm ⟨hxn.1, hxn.2.1⟩
            have HU3 : Hid (unF true ⟨[], 0, 0⟩ ts = unF (okAt ts (i + 1)) (s.piece (writP x)) (ts.drop (i + 1))) := by
              have h := HU2.out
              rw [if_neg (fun h => k0 h.1), if_neg (fun h => k5 h.1), rtok_piece s hm k5 k0, ← okAt_succ Hx.out] at h
              exact hidOf h
            have HS2 := hidOf (HS.out.piece (writP x))
            have HK2 : Hid (∀ Z : List UInt8, okAt ts (i + 1) = true → Z = []) := fun Z h => by rw [okAt_succ Hx.out] at h; simp [k5] at h
            have HZ2 : Hid (∀ x ∈ ts.take (i + 1), ¬ x.k = 0) := fun y hy => by
              rw [List.take_add_one, Hx.out] at hy
              rcases List.mem_append.1 hy with h | h
              · exact HZ.out y h
              · simp at h; rw [h]; exact k0
            have CWr : Hid (∀ wx, Out w wx → Calls Tryd.prog 40 #[.agg #[.int .i64 x.k, .string ⟨x.t.toArray⟩, .int .u64 x.n, .int .i64 x.l]] wx fun e w' => e = .returned (.string ⟨(writP x).toArray⟩) ∧ Out wx w') := fun wx ho => refWritten_any x ⟨hxn.1, hxn.2.1⟩ wx (HP.out.out ho)
            obtain ⟨hwB, hB0, hob⟩ := HB.out
            have HOb := hidOf hob
            clear hob
            generalize writP x = W at *
            generalize x.k = xk at *
            clear HU2 k0 k5 hm hxn
            by_cases hpos : 0 < Ln.length
            · have hpI : (0 : Int) < Ln.length := by omega
              rw [if_pos hpos] at HS2
              obtain ⟨P, hP⟩ : ∃ P, P = Ln ++ [32] := ⟨_, rfl⟩
              have hPl : P.length = Ln.length + 1 := by rw [hP]; simp
              obtain ⟨Z, hZ⟩ : ∃ Z, Z = P ++ W := ⟨_, rfl⟩
              have hZl : Z.length = P.length + W.length := by rw [hZ]; simp
              rw [← hP, ← hZ] at HS2
              have HK2 := hidOf (HK2.out Z)
              have HPe := hidOf hP
              have HPl := hidOf hPl
              have HZe := hidOf hZ
              have HZl := hidOf hZl
              have hPb : P.length ≤ i * 100 + 1 := by omega
              clear hP hPl hZ hZl
              go_upto_region 23 with (go_at_call 39; refine (CM.out _).mono ?_; rintro e w1 ⟨rfl, ho⟩; have P1 := hidOf ho; have O1 := hidOf (Out.trans HO.out ho); have p0 := cell_later ho q0; clear ho)
              have HL2 := hidOf (HL1.out.out P1.out)
              have HO2 := hidOf (HO1.out.out P1.out)
              have B2 := hidOf (Nat.le_trans hB0 P1.out.size)
              have HX2 := hidOf (HL2.out.out ((Out.refl w1).alloc (.cells #[.int .u8 32] 5)))
              have HY2 := hidOf (HO2.out.out ((Out.refl w1).alloc (.cells #[.int .u8 32] 5)))
              have OA2 := hidOf (O1.out.alloc (.cells #[.int .u8 32] 5))
              have BA2 : Hid (B1 ≤ (w1.alloc (.cells #[.int .u8 32] 5)).heap.size) := by have := B2.out; show B1 ≤ _; rw [size_alloc]; omega
              go_upto_region 24 with (at_builtin; refine wpList_append_own _ rfl (.tmp 71) (.tmp 72) 22 rfl B1 5 i0 _ 1 1 Tryd.underlying22 hi hz0 hz1 hz2 rfl (by decide) (.slice la Ln.length lc) Ln.length (Lib.byteCells Ln) rfl HX2.out ⟨w1.heap.size, 0, none⟩ 1 1 [.int .u8 32] rfl rfl (news_new w1 _ _ _ rfl) (fun u hu => by rw [List.mem_singleton.1 hu]; rfl) (by unfold maxLen; omega) (by omega) BA2.out ?_; intro v' w2 hown' hgrow _; have HG2 := hidOf hgrow; have HW2 := hidOf hown'; clear hown' hgrow)
              have hgrow := HG2.out
              have O4 := hidOf (Chg.out (S := fun k => (Value.slice la Ln.length lc).ownBlock = some k) (Chg.of_grown hgrow (fun k h => h)) OA2.out (fun k hk => Nat.le_trans hwB (World.ownsRow.lt HX2.out k hk).1))
              have HO4 : Hid (OwB w.heap.size (.slice oa O.length oc) O w2) := hidOf (owns_chg (S := fun k => (Value.slice la Ln.length lc).ownBlock = some k) HY2.out (fun k hk hk' => by have h1 := HOb.out k hk; have h2 := (World.ownsRow.lt HX2.out k hk').1; omega) (Chg.of_grown hgrow (fun k h => h)))
              have HN4 : Hid (OwB B1 v' P w2) := OwB.mk (P := [32]) HW2.out HPe.out HPl.out.symm
              obtain ⟨pa, pc, rfl⟩ : ∃ ad cp, v' = .slice ad P.length cp := own_form HN4.out
              have B4 := hidOf (Nat.le_trans BA2.out hgrow.size)
              clear hgrow HG2 HW2 HX2 HY2 OA2 BA2
              have r0 := (HC4.out w2 O4.out).1
              have r1 := (HC4.out w2 O4.out).2.1
              have r2 := (HC4.out w2 O4.out).2.2.1
              have r3 := (HC4.out w2 O4.out).2.2.2
              go_wp2_with (first | (go_at_call 40; refine (CWr.out w2 O4.out).mono ?_; rintro e w3 ⟨rfl, ho⟩; have O3 := hidOf (Out.trans O4.out ho); have HL3 := hidOf (HN4.out.out ho); have HO3 := hidOf (HO4.out.out ho); have B3 := hidOf (Nat.le_trans B4.out ho.size); clear ho) | (at_builtin; refine Lib.wpList_append_own_string _ rfl (.tmp 74) (.tmp 79) 22 9 rfl B1 5 i0 Tryd.underlying22 Tryd.underlying9 hi hz0 hz1 hz2 (.slice pa P.length pc) P.length (Lib.byteCells P) rfl HL3.out ⟨W.toArray⟩ rfl (by rw [mk_size]; unfold maxLen; omega) (by rw [mk_size]; omega) B3.out ?_; intro v' w6 hown' hgrow _; have O6 := hidOf (Chg.out (S := fun k => (Value.slice pa P.length pc).ownBlock = some k) (Chg.of_grown hgrow (fun k h => h)) O3.out (fun k hk => Nat.le_trans hwB (World.ownsRow.lt HL3.out k hk).1)); have HO6 : Hid (OwB w.heap.size (.slice oa O.length oc) O w6) := hidOf (owns_chg (S := fun k => (Value.slice pa P.length pc).ownBlock = some k) HO3.out (fun k hk hk' => by have h1 := HOb.out k hk; have h2 := (World.ownsRow.lt HL3.out k hk').1; omega) (Chg.of_grown hgrow (fun k h => h))); rw [str_bcU, mk_size] at hown'; have HN6 : Hid (OwB B1 v' Z w6) := OwB.mk (P := W) hown' HZe.out HZl.out.symm; obtain ⟨g6, c6, rfl⟩ : ∃ ad cp, v' = .slice ad Z.length cp := own_form HN6.out; have B6 := hidOf (Nat.le_trans B3.out hgrow.size); clear hown' hgrow))
              go_roundw
              case rel => exact ⟨i + 1, O, Z, oa, g6, oc, c6, B1, _, rfl, rfl, by simp, by omega, by have := HZl.out; have := HPl.out; omega, HU3, HS2, HK2, HZ2, HO6, HN6, hidOf ⟨hwB, B6.out, HOb.out⟩, O6⟩
              case measure => simp [intOf]; omega
            · have hpI : ¬ (0 : Int) < Ln.length := by omega
              have hP0 : Ln.length = 0 := by omega
              rw [if_neg hpos] at HS2
              obtain ⟨Z, hZ⟩ : ∃ Z, Z = Ln ++ W := ⟨_, rfl⟩
              have hZl : Z.length = Ln.length + W.length := by rw [hZ]; simp
              rw [← hZ] at HS2
              have HK2 := hidOf (HK2.out Z)
              have HZe := hidOf hZ
              have HZl := hidOf hZl
              have HP0 := hidOf hP0
              have hPb : Ln.length ≤ 5 := by omega
              have HOL := hidOf hOL
              clear hZ hZl hP0 hpos
              go_upto_region 24 with (go_at_call 39; refine (CM.out _).mono ?_; rintro e w1 ⟨rfl, ho⟩; have P1 := hidOf ho; have O1 := hidOf (Out.trans HO.out ho); have p0 := cell_later ho q0; clear ho)
              have HL2 := hidOf (HL1.out.out P1.out)
              have HO2 := hidOf (HO1.out.out P1.out)
              have B2 := hidOf (Nat.le_trans hB0 P1.out.size)
              have r0 := (HC4.out w1 O1.out).1
              have r1 := (HC4.out w1 O1.out).2.1
              have r2 := (HC4.out w1 O1.out).2.2.1
              have r3 := (HC4.out w1 O1.out).2.2.2
              go_wp2_with (first | (go_at_call 40; refine (CWr.out w1 O1.out).mono ?_; rintro e w3 ⟨rfl, ho⟩; have O3 := hidOf (Out.trans O1.out ho); have HL3 := hidOf (HL2.out.out ho); have HO3 := hidOf (HO2.out.out ho); have B3 := hidOf (Nat.le_trans B2.out ho.size); clear ho) | (at_builtin; refine Lib.wpList_append_own_string _ rfl (.tmp 74) (.tmp 79) 22 9 rfl B1 5 i0 Tryd.underlying22 Tryd.underlying9 hi hz0 hz1 hz2 (.slice la Ln.length lc) Ln.length (Lib.byteCells Ln) rfl HL3.out ⟨W.toArray⟩ rfl (by rw [mk_size]; unfold maxLen; omega) (by rw [mk_size]; omega) B3.out ?_; intro v' w6 hown' hgrow _; have O6 := hidOf (Chg.out (S := fun k => (Value.slice la Ln.length lc).ownBlock = some k) (Chg.of_grown hgrow (fun k h => h)) O3.out (fun k hk => Nat.le_trans hwB (World.ownsRow.lt HL3.out k hk).1)); have HO6 : Hid (OwB w.heap.size (.slice oa O.length oc) O w6) := hidOf (owns_chg (S := fun k => (Value.slice la Ln.length lc).ownBlock = some k) HO3.out (fun k hk hk' => by have h1 := HOb.out k hk; have h2 := (World.ownsRow.lt HL3.out k hk').1; omega) (Chg.of_grown hgrow (fun k h => h))); rw [str_bcU, mk_size] at hown'; have HN6 : Hid (OwB B1 v' Z w6) := OwB.mk (P := W) hown' HZe.out HZl.out.symm; obtain ⟨g6, c6, rfl⟩ : ∃ ad cp, v' = .slice ad Z.length cp := own_form HN6.out; have B6 := hidOf (Nat.le_trans B3.out hgrow.size); clear hown' hgrow))
              go_roundw
              case rel => exact ⟨i + 1, O, Z, oa, g6, oc, c6, B1, _, rfl, rfl, by simp, by omega, by have := HZl.out; have := HP0.out; have := HOL.out; omega, HU3, HS2, HK2, HZ2, HO6, HN6, hidOf ⟨hwB, B6.out, HOb.out⟩, O6⟩
              case measure => simp [intOf]; omega
      · have hR : R = ([], mayP x) := by
          rw [HR.out]; unfold untokP
          rw [HU2.out, if_neg hm]
          simp only
          rw [if_neg hm]
        have HRf := hidOf hR
        have e1 : (mayP x == 0) = false := by simpa using hm
        have e2 : (mayP x != 0) = true := by simpa using hm
        generalize mayP x = E at *
        clear hR hm HU2
        go_wp2_with (go_at_call 39; refine (CM.out _).mono ?_; rintro e w1 ⟨rfl, ho⟩; have O1 := hidOf (Out.trans HO.out ho); clear ho)
        go_ret2
        exact ⟨by rw [HRf.out]; rfl, O1.out⟩
    · have hltI : ¬ (i : Int) < ts.length := by omega
      have hR : R = ([], 52) := by
        have hz := HZ.out
        rw [List.take_of_length_le (by omega)] at hz
        rw [HR.out]; unfold untokP
        rw [HU.out, List.drop_of_length_le (by omega)]
        simp only [unF, if_true]
        rw [if_neg (lastK_none hz)]
      have HRf := hidOf hR
      clear hR
      go_wp2
      go_ret2
      exact ⟨by rw [HRf.out]; rfl, HO.out⟩
end Go.Proofs.YtfhmhdhaibmcfaaDoor
