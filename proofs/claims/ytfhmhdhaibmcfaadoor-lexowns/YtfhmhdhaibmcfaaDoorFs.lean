import Derived.Test.YtfhmhdhaibmcfaaDoorFr
import Derived.Test.YtfhmhdhaibmcfaaDoorFg
namespace Go.Proofs.YtfhmhdhaibmcfaaDoor
open Go.RowKit
set_option linter.unusedVariables false
set_option linter.unusedSimpArgs false
theorem tkV_sing (x : Tk) : tkV [x] = x.cs := by simp [tkV]
theorem scan_kind1 (b : UInt8) (y : List UInt8) (h : kindP (bI b) = 1) : scanD (b :: y) = scanD y := by
  have hp : pieceP (b :: y) = (0, none, 1) := by rw [piece_cons, if_pos h]
  rw [scanD_ok b y (by rw [hp]), hp]
  simp
theorem scan_kind2 (b : UInt8) (y : List UInt8) (h : kindP (bI b) = 2) : scanD (b :: y) = (0, []) := by
  have hp : pieceP (b :: y) = (0, none, y.length + 1) := by rw [piece_cons, if_neg (by rw [h]; decide), if_pos h]
  rw [scanD_ok b y (by rw [hp]), hp]
  simp [scanD_nil]
theorem kinds2 : ∀ n : Fin 256, (kindP (n.val : Int) = 1 ↔ n.val = 32 ∨ n.val = 9 ∨ n.val = 13) ∧ (kindP (n.val : Int) = 2 ↔ n.val = 59 ∨ n.val = 35) := by decide +kernel
theorem beqT {c n : Nat} (h : c = n) : ((c : Int) == (n : Int)) = true := by rw [h]; simp
theorem bneF {c n : Nat} (h : c = n) : ((c : Int) != (n : Int)) = false := by rw [h]; simp
theorem beqF {c n : Nat} (h : ¬ c = n) : ((c : Int) == (n : Int)) = false := by simp; omega
theorem bneT {c n : Nat} (h : ¬ c = n) : ((c : Int) != (n : Int)) = true := by simp; omega
def LineEnd (w : World) (num : Nat) (l : List UInt8) (e : Ending) (w' : World) : Prop :=
  ∃ v, e = .returned (.tuple #[v, .int .i64 (lineP l).1]) ∧ ((lineP l).1 = 0 → OwT w.heap.size v (((lineP l).2 ++ [(5, [], 0)]).map (mkT num)) w') ∧ (¬ (lineP l).1 = 0 → v = .slice none 0 0) ∧ Out w w'
set_option maxRecDepth 20000 in
set_option maxHeartbeats 3000000 in
theorem refLine_any (s : ByteArray) (hs : s.size ≤ 4611686018427387904) (num : Nat) (w : World) : Calls Tryd.prog 29 #[.string s, .int .i64 num] w fun e w' => LineEnd w num s.toList e w' := by
  by_cases hbig : 1024 < s.size
  · have hbI : (1024 : Int) < s.size := by omega
    have HL : Hid (lineP s.toList = (51, [])) := by unfold lineP; rw [if_neg (by rw [lsize]; omega)]; exact hidOf rfl
    go_enter Tryd.func29, Tryd.ntmps29
    go_wp2
    go_ret2
    exact ⟨_, by rw [HL.out]; rfl, fun h => by rw [HL.out] at h; exact absurd h (show ¬ (51 : Int) = 0 by decide), fun _ => rfl, Out.refl w⟩
  · have hbI : ¬ (1024 : Int) < s.size := by omega
    have HLP : Hid (lineP s.toList = scanD s.toList) := by unfold lineP; rw [if_pos (by rw [lsize]; omega)]; exact hidOf rfl
    obtain ⟨i1, hi', hy0, hy1, hy2⟩ := info_parts infoTk
    go_enter Tryd.func29, Tryd.ntmps29
    go_wp2
    go_loopw [6, 7] (fun ov av wr => ∃ (j : Nat) (D : List (Int × List UInt8 × Int)) (T : List Tk) (a : Option Addr) (c : Nat), ov = .slice a T.length c ∧ av = .int .i64 j ∧ j ≤ s.size ∧ T.length ≤ j ∧ Hid (T = D.map (mkT num)) ∧ Hid (scanD s.toList = ((scanD (s.toList.drop j)).1, D ++ (scanD (s.toList.drop j)).2)) ∧ Hid (OwT w.heap.size (.slice a T.length c) T wr) ∧ Hid (Out w wr)) (fun _ av _ => s.size - (intOf av).toNat)
    case atStart => exact ⟨0, [], [], none, 0, rfl, rfl, by omega, by simp, hidOf rfl, hidOf rfl, hidOf (World.ownsRow_nil _ _ _ _), hidOf (Out.refl w)⟩
    case round =>
      obtain ⟨j, D, T, a, c, rfl, rfl, hj, hTl, HTD, HSc, HOT, HO⟩ := hrel
      by_cases hlt : j < s.size
      · have hltI : (j : Int) < s.size := by omega
        have Hd := hidOf (drop_at (lget s j hlt))
        have Hk := hidOf (kinds2 ⟨s[j].toNat, s[j].toNat_lt⟩)
        by_cases k2 : s[j].toNat = 59 ∨ s[j].toNat = 35
        · have hL : lineP s.toList = (0, D) := by rw [HLP.out, HSc.out, Hd.out, scan_kind2 _ _ (Hk.out.2.2 k2)]; simp
          have HL := hidOf hL
          clear hL
          rcases k2 with k2 | k2
          · have e1 : ((s[j].toNat : Int) == 59) = true := beqT (c := s[j].toNat) (n := 59) (by omega)
            have e2 : ((s[j].toNat : Int) != 59) = false := bneF (c := s[j].toNat) (n := 59) (by omega)
            clear k2
            obtain ⟨T2, hT2⟩ : ∃ T2, T2 = T ++ [⟨5, [], 0, (num : Int)⟩] := ⟨_, rfl⟩
            have hT2l : T2.length = T.length + 1 := by rw [hT2]; simp
            have HT2 := hidOf hT2
            have HT2l := hidOf hT2l
            clear hT2 hT2l
            go_wp2_with (at_builtin; refine wpList_append_own _ rfl (.tmp 65) (.tmp 68) 30 rfl w.heap.size 36 i1 _ 4 40 Tryd.underlying30 hi' hy0 hy1 hy2 rfl (by decide) (.slice a T.length c) T.length (tkV T) rfl (HOT.out.out ((Out.refl wr).alloc _)) ⟨wr.heap.size, 0, none⟩ 1 1 (Tk.cs ⟨5, [], 0, (num : Int)⟩) rfl rfl (news_new wr _ _ _ rfl) (tk_one _) (by unfold maxLen; omega) (by omega) (by have := HO.out.size; rw [size_alloc]; omega) ?_; intro v' w6 hown' hgrow _; have O6 := hidOf (out_own rfl (HOT.out.out ((Out.refl wr).alloc _)) (HO.out.alloc _) hgrow); have HN6 : Hid (OwT w.heap.size v' T2 w6) := OwT.mk (P := [⟨5, [], 0, (num : Int)⟩]) (by rw [tkV_sing]; exact hown') HT2.out HT2l.out.symm; clear hown' hgrow)
            go_ret2
            refine ⟨v', by rw [HL.out]; rfl, fun _ => ?_, fun h => absurd (by rw [HL.out]) h, O6.out⟩
            rw [HL.out, List.map_append]
            have h := HN6.out
            rw [HT2.out, HTD.out] at h
            exact h
          · have e1 : ((s[j].toNat : Int) == 59) = false := beqF (c := s[j].toNat) (n := 59) (by omega)
            have e2 : ((s[j].toNat : Int) != 59) = true := bneT (c := s[j].toNat) (n := 59) (by omega)
            have e3 : ((s[j].toNat : Int) == 35) = true := beqT (c := s[j].toNat) (n := 35) (by omega)
            have e4 : ((s[j].toNat : Int) != 35) = false := bneF (c := s[j].toNat) (n := 35) (by omega)
            clear k2
            obtain ⟨T2, hT2⟩ : ∃ T2, T2 = T ++ [⟨5, [], 0, (num : Int)⟩] := ⟨_, rfl⟩
            have hT2l : T2.length = T.length + 1 := by rw [hT2]; simp
            have HT2 := hidOf hT2
            have HT2l := hidOf hT2l
            clear hT2 hT2l
            go_wp2_with (at_builtin; refine wpList_append_own _ rfl (.tmp 65) (.tmp 68) 30 rfl w.heap.size 36 i1 _ 4 40 Tryd.underlying30 hi' hy0 hy1 hy2 rfl (by decide) (.slice a T.length c) T.length (tkV T) rfl (HOT.out.out ((Out.refl wr).alloc _)) ⟨wr.heap.size, 0, none⟩ 1 1 (Tk.cs ⟨5, [], 0, (num : Int)⟩) rfl rfl (news_new wr _ _ _ rfl) (tk_one _) (by unfold maxLen; omega) (by omega) (by have := HO.out.size; rw [size_alloc]; omega) ?_; intro v' w6 hown' hgrow _; have O6 := hidOf (out_own rfl (HOT.out.out ((Out.refl wr).alloc _)) (HO.out.alloc _) hgrow); have HN6 : Hid (OwT w.heap.size v' T2 w6) := OwT.mk (P := [⟨5, [], 0, (num : Int)⟩]) (by rw [tkV_sing]; exact hown') HT2.out HT2l.out.symm; clear hown' hgrow)
            go_ret2
            refine ⟨v', by rw [HL.out]; rfl, fun _ => ?_, fun h => absurd (by rw [HL.out]) h, O6.out⟩
            rw [HL.out, List.map_append]
            have h := HN6.out
            rw [HT2.out, HTD.out] at h
            exact h
        · have e1 : ((s[j].toNat : Int) == 59) = false := beqF (c := s[j].toNat) (n := 59) (by omega)
          have e2 : ((s[j].toNat : Int) != 59) = true := bneT (c := s[j].toNat) (n := 59) (by omega)
          have e3 : ((s[j].toNat : Int) == 35) = false := beqF (c := s[j].toNat) (n := 35) (by omega)
          have e4 : ((s[j].toNat : Int) != 35) = true := bneT (c := s[j].toNat) (n := 35) (by omega)
          by_cases k1 : s[j].toNat = 32 ∨ s[j].toNat = 9 ∨ s[j].toNat = 13
          · have HS2 : Hid (scanD s.toList = ((scanD (s.toList.drop (j + 1))).1, D ++ (scanD (s.toList.drop (j + 1))).2)) := by rw [HSc.out, Hd.out, scan_kind1 _ _ (Hk.out.1.2 k1)]; exact hidOf rfl
            rcases k1 with k1 | k1 | k1
            · have f1 : ((s[j].toNat : Int) == 32) = true := beqT (c := s[j].toNat) (n := 32) (by omega)
              clear k1 k2
              go_wp2
              go_roundw
              case rel => exact ⟨j + 1, D, T, a, c, rfl, by simp, by omega, by omega, HTD, HS2, HOT, HO⟩
              case measure => simp [intOf]; omega
            · have f1 : ((s[j].toNat : Int) == 32) = false := beqF (c := s[j].toNat) (n := 32) (by omega)
              have f2 : ((s[j].toNat : Int) == 9) = true := beqT (c := s[j].toNat) (n := 9) (by omega)
              clear k1 k2
              go_wp2
              go_roundw
              case rel => exact ⟨j + 1, D, T, a, c, rfl, by simp, by omega, by omega, HTD, HS2, HOT, HO⟩
              case measure => simp [intOf]; omega
            · have f1 : ((s[j].toNat : Int) == 32) = false := beqF (c := s[j].toNat) (n := 32) (by omega)
              have f2 : ((s[j].toNat : Int) == 9) = false := beqF (c := s[j].toNat) (n := 9) (by omega)
              have f3 : ((s[j].toNat : Int) == 13) = true := beqT (c := s[j].toNat) (n := 13) (by omega)
              clear k1 k2
              go_wp2
              go_roundw
              case rel => exact ⟨j + 1, D, T, a, c, rfl, by simp, by omega, by omega, HTD, HS2, HOT, HO⟩
              case measure => simp [intOf]; omega
          · have f1 : ((s[j].toNat : Int) == 32) = false := beqF (c := s[j].toNat) (n := 32) (by omega)
            have f2 : ((s[j].toNat : Int) == 9) = false := beqF (c := s[j].toNat) (n := 9) (by omega)
            have f3 : ((s[j].toNat : Int) == 13) = false := beqF (c := s[j].toNat) (n := 13) (by omega)
            have CP := hidOf (refPiece_any s j hlt hs wr (fun h => k1 (Hk.out.1.1 h)) (fun h => k2 (Hk.out.2.1 h)))
            clear k1 k2
            obtain ⟨pe, po, pn, hpp⟩ : ∃ pe po pn, pieceP (s.toList.drop j) = (pe, po, pn) := ⟨_, _, _, rfl⟩
            rw [hpp] at CP
            have HPP := hidOf hpp
            clear hpp
            by_cases he : pe = 0
            · subst he
              have hpl := piece_len s[j] (s.toList.drop (j + 1)) (by rw [← Hd.out, HPP.out])
              rw [← Hd.out, HPP.out, List.length_drop, lsize] at hpl
              simp only at hpl
              have hpn : j + pn ≤ s.size := by omega
              have hpn1 : 1 ≤ pn := hpl.1
              have HSn : Hid (∀ q, po = some q → scanD s.toList = ((scanD (s.toList.drop (j + pn))).1, (D ++ [q]) ++ (scanD (s.toList.drop (j + pn))).2)) := fun q hq => by
                rw [HSc.out, Hd.out, scanD_ok _ _ (by rw [← Hd.out, HPP.out]), ← Hd.out, HPP.out, hq, List.drop_drop]
                simp
              clear hpl
              go_upto_region 9 with (go_at_call 42; refine CP.out.mono ?_; rintro e w3 ⟨k, t, n, ev, rfl, hok, ho⟩; obtain ⟨hq, hev⟩ := hok rfl; subst hev; have HQ := hidOf hq; have HO3 := hidOf ho; clear hok ho hq)
              go_upto_region 12 with fail
              have HO4 := hidOf (HO3.out.alloc (.cells #[.int .i64 k, .string ⟨t.toArray⟩, .int .u64 n, .int .i64 num] 36))
              have c0 : (w3.alloc (.cells #[.int .i64 k, .string ⟨t.toArray⟩, .int .u64 n, .int .i64 num] 36)).cell? ⟨w3.heap.size, 0, none⟩ = some (.int .i64 k) := by rw [cell_fresh _ _ _ _ _ rfl]; rfl
              have c1 : (w3.alloc (.cells #[.int .i64 k, .string ⟨t.toArray⟩, .int .u64 n, .int .i64 num] 36)).cell? ⟨w3.heap.size, 1, none⟩ = some (.string ⟨t.toArray⟩) := by rw [cell_fresh _ _ _ _ _ rfl]; rfl
              have c2 : (w3.alloc (.cells #[.int .i64 k, .string ⟨t.toArray⟩, .int .u64 n, .int .i64 num] 36)).cell? ⟨w3.heap.size, 2, none⟩ = some (.int .u64 n) := by rw [cell_fresh _ _ _ _ _ rfl]; rfl
              have c3 : (w3.alloc (.cells #[.int .i64 k, .string ⟨t.toArray⟩, .int .u64 n, .int .i64 num] 36)).cell? ⟨w3.heap.size, 3, none⟩ = some (.int .i64 num) := by rw [cell_fresh _ _ _ _ _ rfl]; rfl
              generalize w3.alloc (.cells #[.int .i64 k, .string ⟨t.toArray⟩, .int .u64 n, .int .i64 num] 36) = W at *
              generalize w3.heap.size = B at *
              have O4 := hidOf (Out.trans HO.out HO4.out)
              have HOT4 := hidOf (HOT.out.out HO4.out)
              obtain ⟨T2, hT2⟩ : ∃ T2, T2 = T ++ [⟨k, t, n, (num : Int)⟩] := ⟨_, rfl⟩
              have hT2l : T2.length = T.length + 1 := by rw [hT2]; simp
              have HT2 := hidOf hT2
              have HT2l := hidOf hT2l
              have hT2b : T2.length ≤ j + pn := by omega
              clear hT2 hT2l
              go_wp2_with (at_builtin; refine wpList_append_own _ rfl (.tmp 60) (.tmp 62) 30 rfl w.heap.size 36 i1 _ 4 40 Tryd.underlying30 hi' hy0 hy1 hy2 rfl (by decide) (.slice a T.length c) T.length (tkV T) rfl (HOT4.out.out ((Out.refl W).alloc _)) ⟨W.heap.size, 0, none⟩ 1 1 (Tk.cs ⟨k, t, n, (num : Int)⟩) rfl rfl (news_new W _ _ _ rfl) (tk_one _) (by unfold maxLen; omega) (by omega) (by have := O4.out.size; rw [size_alloc]; omega) ?_; intro v' w6 hown' hgrow _; have O6 := hidOf (out_own rfl (HOT4.out.out ((Out.refl W).alloc _)) (O4.out.alloc _) hgrow); have HN6 : Hid (OwT w.heap.size v' T2 w6) := OwT.mk (P := [⟨k, t, n, (num : Int)⟩]) (by rw [tkV_sing]; exact hown') HT2.out HT2l.out.symm; obtain ⟨g6, c6, rfl⟩ : ∃ ad cp, v' = .slice ad T2.length cp := own_form HN6.out; clear hown' hgrow)
              go_roundw
              case rel => exact ⟨j + pn, D ++ [(k, t, n)], T2, g6, c6, rfl, rfl, hpn, hT2b, hidOf (by rw [HT2.out, HTD.out, List.map_append]; rfl), hidOf (HSn.out _ HQ.out), HN6, O6⟩
              case measure => simp [intOf]; omega
            · have he1 : (pe == 0) = false := by simpa using he
              have he2 : (pe != 0) = true := by simpa using he
              have hL : lineP s.toList = (pe, D) := by
                have h := HPP.out
                rw [Hd.out] at h
                rw [HLP.out, HSc.out, Hd.out, scanD_bad _ _ (by rw [h]; exact he), h]
                simp
              have HL := hidOf hL
              clear hL
              go_wp2_with (go_at_call 42; refine CP.out.mono ?_; rintro e w3 ⟨k, t, n, ev, rfl, hok, ho⟩; have O3 := hidOf (Out.trans HO.out ho); clear hok ho)
              go_ret2
              exact ⟨_, by rw [HL.out]; rfl, fun h => by rw [HL.out] at h; exact absurd h he, fun _ => rfl, O3.out.alloc _⟩
      · have hltI : ¬ (j : Int) < s.size := by omega
        have hL : lineP s.toList = (0, D) := by rw [HLP.out, HSc.out, List.drop_eq_nil_of_le (by rw [lsize]; omega), scanD_nil]; simp
        have HL := hidOf hL
        clear hL
        obtain ⟨T2, hT2⟩ : ∃ T2, T2 = T ++ [⟨5, [], 0, (num : Int)⟩] := ⟨_, rfl⟩
        have hT2l : T2.length = T.length + 1 := by rw [hT2]; simp
        have HT2 := hidOf hT2
        have HT2l := hidOf hT2l
        clear hT2 hT2l
        go_wp2_with (at_builtin; refine wpList_append_own _ rfl (.tmp 65) (.tmp 68) 30 rfl w.heap.size 36 i1 _ 4 40 Tryd.underlying30 hi' hy0 hy1 hy2 rfl (by decide) (.slice a T.length c) T.length (tkV T) rfl (HOT.out.out ((Out.refl wr).alloc _)) ⟨wr.heap.size, 0, none⟩ 1 1 (Tk.cs ⟨5, [], 0, (num : Int)⟩) rfl rfl (news_new wr _ _ _ rfl) (tk_one _) (by unfold maxLen; omega) (by omega) (by have := HO.out.size; rw [size_alloc]; omega) ?_; intro v' w6 hown' hgrow _; have O6 := hidOf (out_own rfl (HOT.out.out ((Out.refl wr).alloc _)) (HO.out.alloc _) hgrow); have HN6 : Hid (OwT w.heap.size v' T2 w6) := OwT.mk (P := [⟨5, [], 0, (num : Int)⟩]) (by rw [tkV_sing]; exact hown') HT2.out HT2l.out.symm; clear hown' hgrow)
        go_ret2
        refine ⟨v', by rw [HL.out]; rfl, fun _ => ?_, fun h => absurd (by rw [HL.out]) h, O6.out⟩
        rw [HL.out, List.map_append]
        have h := HN6.out
        rw [HT2.out, HTD.out] at h
        exact h
end Go.Proofs.YtfhmhdhaibmcfaaDoor
