import Derived.Test.YtfhmhdhaibmcfaaDoorFs
import Derived.Test.YtfhmhdhaibmcfaaDoorFx
namespace Go.Proofs.YtfhmhdhaibmcfaaDoor
open Go.RowKit
set_option linter.unusedVariables false
set_option linter.unusedSimpArgs false
theorem owns_base {B B' s n : Nat} {w : World} {e : TypeId} {v : Value} {xs : List Value} (h : w.ownsRow B e s v n xs) (hb : B' ≤ B) : w.ownsRow B' e s v n xs := by
  refine ⟨h.1, ?_⟩
  rcases h.2 with hn | ⟨g, cap, cur, hv, hg, rest⟩
  · exact .inl hn
  · exact .inr ⟨g, cap, cur, hv, Nat.le_trans hb hg, rest⟩
theorem OwS.at {B : Nat} {a : Option Addr} {c : Nat} {D : List (List UInt8)} {w : World} (h : OwS B (.slice a D.length c) D w) {k : Nat} {x : List UInt8} (hx : D[k]? = some x) : ∃ g, a = some ⟨g, 0, none⟩ ∧ w.cell? ⟨g, k, none⟩ = some (.string ⟨x.toArray⟩) := by
  rcases h.2 with ⟨hv, hn⟩ | ⟨g, cap, cur, hv, _⟩
  · rw [List.length_eq_zero_iff.1 hn] at hx; simp at hx
  · have hv2 := hv
    simp only [Value.slice.injEq] at hv2
    refine ⟨g, hv2.1, ?_⟩
    have := World.ownsRow.cells h (g := g) (by rw [hv]; rfl) k (.string ⟨x.toArray⟩) (by simp [sV, hx])
    rw [WideShapes.add_plain, Nat.zero_add] at this
    exact this
theorem linesF_mem : ∀ (f : Nat) (l x : List UInt8), x ∈ linesF f l → x.length ≤ l.length
  | 0, _, _, h => by simp [linesF] at h
  | _ + 1, [], _, h => by simp [linesF] at h
  | f + 1, c :: r, x, h => by
    have hc := cutL_len (c :: r) (by simp)
    unfold linesF at h
    rcases List.mem_cons.1 h with e | h
    · rw [e]; omega
    · have := linesF_mem f _ x h; omega
theorem line_small {x : List UInt8} (h : (lineP x).1 = 0) : x.length ≤ 1024 := by
  unfold lineP at h
  split at h
  · assumption
  · simp at h
theorem textL_ok (n : Nat) (x : List UInt8) (r : List (List UInt8)) (h : (lineP x).1 = 0) : textL n (x :: r) = ((textL (n + 1) r).1, (textL (n + 1) r).2.1, ((lineP x).2 ++ [(5, [], 0)]).map (mkT (n + 1)) ++ (textL (n + 1) r).2.2) := by
  show (if _ then _ else _) = _
  rw [if_pos h]
theorem textL_bad (n : Nat) (x : List UInt8) (r : List (List UInt8)) (h : ¬ (lineP x).1 = 0) : textL n (x :: r) = ((lineP x).1, n + 1, []) := by
  show (if _ then _ else _) = _
  rw [if_neg h]
set_option maxRecDepth 20000 in
set_option maxHeartbeats 3000000 in
theorem refTokens_any (w : World) (a : Option Addr) (cap : Nat) (l : List UInt8) (hr : RestAt w.heap.size w a l) (hcap : l.length ≤ cap) :
    Calls Tryd.prog 13 #[.slice a l.length cap] w fun e w' => ∃ v, e = .returned (.tuple #[v, .int .i64 (tokensP l).2.1, .int .i64 (tokensP l).2.2]) ∧ OwT w.heap.size v (tokensP l).1 w' ∧ Out w w' := by
  by_cases hl : l.length ≤ 16777216
  · have hlI' : ¬ (16777216 : Int) < l.length := by omega
    have CLn := hidOf (refLines_any w a cap l hr hcap hl)
    have hP : tokensP l = (if (textL 0 (linesD l)).1 = 0 then ((textL 0 (linesD l)).2.2 ++ [⟨0, [], 0, (textL 0 (linesD l)).2.1⟩], (0 : Int), (0 : Int)) else ([], (((textL 0 (linesD l)).2.1 : Nat) : Int), (textL 0 (linesD l)).1)) := by unfold tokensP; rw [if_pos hl, textD_lines]
    rw [hP]
    have hLl : (linesD l).length ≤ 16777216 := Nat.le_trans (linesF_len _ _) hl
    have HLx : Hid (∀ x ∈ linesD l, x.length ≤ 16777216) := fun x hx => Nat.le_trans (linesF_mem _ _ x hx) hl
    clear hP hr
    generalize linesD l = Ls at *
    obtain ⟨E, n0, D0, HD⟩ : ∃ E n0 D0, Hid (textL 0 Ls = (E, n0, D0)) := ⟨_, _, _, hidOf rfl⟩
    rw [HD.out]
    simp only
    obtain ⟨R, HRe⟩ : ∃ R : List Tk × Int × Int, Hid (R = if E = 0 then (D0 ++ [⟨0, [], 0, n0⟩], (0 : Int), (0 : Int)) else ([], (n0 : Int), E)) := ⟨_, hidOf rfl⟩
    rw [← HRe.out]
    obtain ⟨i1, hi', hy0, hy1, hy2⟩ := info_parts infoTk
    go_enter Tryd.func13, Tryd.ntmps13
    go_upto_region 4 with (go_at_call 28; refine CLn.out.mono ?_; rintro e w1 ⟨v1, rfl, hown, ho⟩; have HS1 := hidOf hown; have O1 := hidOf ho; obtain ⟨la, lc, rfl⟩ : ∃ ad cp, v1 = .slice ad Ls.length cp := own_form hown; clear hown ho)
    go_wp2
    go_loopw [6, 7] (fun ov kv wr => ∃ (i : Nat) (T : List Tk) (al : Option Addr) (cl : Nat), ov = .slice al T.length cl ∧ kv = .int .i64 i ∧ i ≤ Ls.length ∧ T.length ≤ i * 1025 ∧ Hid ((E, n0, D0) = ((textL i (Ls.drop i)).1, (textL i (Ls.drop i)).2.1, T ++ (textL i (Ls.drop i)).2.2)) ∧ Hid (OwT w1.heap.size (.slice al T.length cl) T wr) ∧ Hid (Out w1 wr)) (fun _ kv _ => Ls.length - (intOf kv).toNat)
    case atStart => exact ⟨0, [], none, 0, rfl, rfl, by omega, by simp, hidOf (by rw [List.drop_zero, HD.out]; rfl), hidOf (World.ownsRow_nil _ _ _ _), hidOf (Out.refl w1)⟩
    case round =>
      obtain ⟨i, T, al, cl, rfl, rfl, hi, hTl, HT, HOT, HO⟩ := hrel
      by_cases hlt : i < Ls.length
      · have hltI : (i : Int) < Ls.length := by omega
        obtain ⟨x, hx⟩ : ∃ x, Ls[i]? = some x := ⟨_, List.getElem?_eq_getElem hlt⟩
        obtain ⟨gs, rfl, hcs⟩ := HS1.out.at hx
        have qs := cell_later HO.out hcs
        have Hdr : Hid (Ls.drop i = x :: Ls.drop (i + 1)) := by
          obtain ⟨hj, he⟩ := List.getElem?_eq_some_iff.1 hx
          rw [List.drop_eq_getElem_cons hj, he]; exact hidOf rfl
        by_cases hx0 : (lineP x).1 = 0
        · have hxs := line_small hx0
          have hlen := lineP_len x
          have HT2 : Hid ((E, n0, D0) = ((textL (i + 1) (Ls.drop (i + 1))).1, (textL (i + 1) (Ls.drop (i + 1))).2.1, (T ++ ((lineP x).2 ++ [(5, [], 0)]).map (mkT (i + 1))) ++ (textL (i + 1) (Ls.drop (i + 1))).2.2)) := by
            have h := HT.out
            rw [Hdr.out, textL_ok _ _ _ hx0] at h
            rw [h, List.append_assoc]; exact hidOf rfl
          have CL : Hid (Calls Tryd.prog 29 #[.string ⟨x.toArray⟩, .int .i64 ((i : Int) + 1)] wr fun e w' => LineEnd wr (i + 1) x e w') := by
            have := refLine_any ⟨x.toArray⟩ (by rw [mk_size]; omega) (i + 1) wr
            rw [mk_list x] at this
            exact hidOf this
          unfold LineEnd at CL
          rw [hx0] at CL
          obtain ⟨T1, hT1⟩ : ∃ T1, T1 = ((lineP x).2 ++ [(5, [], 0)]).map (mkT (i + 1)) := ⟨_, rfl⟩
          rw [← hT1] at CL HT2
          have hT1l : T1.length ≤ 1025 := by rw [hT1]; simp; omega
          have hT1p : 0 < T1.length := by rw [hT1]; simp
          obtain ⟨T2, hT2⟩ : ∃ T2, T2 = T ++ T1 := ⟨_, rfl⟩
          rw [← hT2] at HT2
          have hT2l : T2.length = T.length + T1.length := by rw [hT2]; simp
          have HT2e := hidOf hT2
          have HT2l := hidOf hT2l
          clear hT1 hT2 hT2l hlen hxs hx0 HT Hdr hx hcs
          go_upto_region 11 with (go_at_call 29; refine CL.out.mono ?_; rintro e w3 ⟨v3, rfl, hok, _, ho⟩; have HN3 := hidOf (hok rfl); have P3 := hidOf ho; have O3 := hidOf (Out.trans HO.out ho); clear hok ho)
          obtain ⟨g3, c3, rfl, hnw⟩ : ∃ g c, v3 = .slice (some ⟨g, 0, none⟩) T1.length c ∧ ∀ j u, (tkV T1)[j]? = some u → w3.cell? ((⟨g, 0, none⟩ : Addr).add j) = some u := by
            rcases HN3.out.2 with ⟨hv, hn⟩ | ⟨g, cap, cur, hv, _⟩
            · omega
            · exact ⟨g, cap, hv, World.ownsRow.cells HN3.out (g := g) (by rw [hv]; rfl)⟩
          have HNW := hidOf hnw
          have HOT3 := hidOf (HOT.out.out P3.out)
          clear hnw
          go_wp2_with (at_builtin; refine wpList_append_own _ rfl (.tmp 36) (.tmp 37) 30 rfl w1.heap.size 36 i1 _ 4 40 Tryd.underlying30 hi' hy0 hy1 hy2 rfl (by decide) (.slice al T.length cl) T.length (tkV T) rfl HOT3.out ⟨g3, 0, none⟩ T1.length c3 (tkV T1) rfl (tkV_len T1) HNW.out (tkV_one T1) (by unfold maxLen; omega) (by omega) O3.out.size ?_; intro v' w6 hown' hgrow _; have O6 := hidOf (out_own rfl HOT3.out O3.out hgrow); have HN6 : Hid (OwT w1.heap.size v' T2 w6) := OwT.mk hown' HT2e.out HT2l.out.symm; obtain ⟨g6, c6, rfl⟩ : ∃ ad cp, v' = .slice ad T2.length cp := own_form HN6.out; clear hown' hgrow)
          go_roundw
          case rel => exact ⟨i + 1, T2, g6, c6, rfl, by simp, by omega, by have := HT2l.out; omega, HT2, HN6, O6⟩
          case measure => simp [intOf]; omega
        · have HX : Hid (E = (lineP x).1 ∧ n0 = i + 1) := by
            have h := HT.out
            rw [Hdr.out, textL_bad _ _ _ hx0] at h
            simp only [Prod.mk.injEq] at h
            exact hidOf ⟨h.1, h.2.1⟩
          have hEz : ¬ E = 0 := by rw [HX.out.1]; exact hx0
          have CL : Hid (Calls Tryd.prog 29 #[.string ⟨x.toArray⟩, .int .i64 ((i : Int) + 1)] wr fun e w' => LineEnd wr (i + 1) x e w') := by
            have hsx : x.length ≤ 16777216 := HLx.out x (List.mem_of_getElem? hx)
            have := refLine_any ⟨x.toArray⟩ (by rw [mk_size]; omega) (i + 1) wr
            rw [mk_list x] at this
            exact hidOf this
          unfold LineEnd at CL
          rw [← HX.out.1] at CL
          have he1 : (E == 0) = false := by simpa using hEz
          have he2 : (E != 0) = true := by simpa using hEz
          clear hx0 HT Hdr hx hcs
          go_wp2_with (go_at_call 29; refine CL.out.mono ?_; rintro e w3 ⟨v3, rfl, _, hbad, ho⟩; have O3 := hidOf (Out.trans O1.out (Out.trans HO.out ho)); have hv3 := hbad hEz; subst hv3; clear hbad ho)
          go_ret3
          rw [HRe.out, if_neg hEz]
          exact ⟨.slice none 0 0, by rw [HX.out.2]; rfl, World.ownsRow_nil _ _ _ _, O3.out⟩
      · have hltI : ¬ (i : Int) < Ls.length := by omega
        have HX : Hid (E = 0 ∧ n0 = Ls.length ∧ D0 = T) := by
          have h := HT.out
          rw [List.drop_of_length_le (by omega)] at h
          simp only [textL, Prod.mk.injEq, List.append_nil] at h
          exact hidOf ⟨h.1, by omega, h.2.2⟩
        obtain ⟨T2, hT2⟩ : ∃ T2, T2 = T ++ [⟨0, [], 0, (Ls.length : Int)⟩] := ⟨_, rfl⟩
        have hT2l : T2.length = T.length + 1 := by rw [hT2]; simp
        have HT2 := hidOf hT2
        have HT2l := hidOf hT2l
        clear hT2 hT2l HT
        go_wp2_with (at_builtin; refine wpList_append_own _ rfl (.tmp 39) (.tmp 43) 30 rfl w1.heap.size 36 i1 _ 4 40 Tryd.underlying30 hi' hy0 hy1 hy2 rfl (by decide) (.slice al T.length cl) T.length (tkV T) rfl (HOT.out.out ((Out.refl wr).alloc _)) ⟨wr.heap.size, 0, none⟩ 1 1 (Tk.cs ⟨0, [], 0, (Ls.length : Int)⟩) rfl rfl (news_new wr _ _ _ rfl) (tk_one _) (by unfold maxLen; omega) (by omega) (by have := HO.out.size; rw [size_alloc]; omega) ?_; intro v' w6 hown' hgrow _; have O6 := hidOf (out_own rfl (HOT.out.out ((Out.refl wr).alloc _)) (HO.out.alloc _) hgrow); have HN6 : Hid (OwT w1.heap.size v' T2 w6) := OwT.mk (P := [⟨0, [], 0, (Ls.length : Int)⟩]) (by rw [tkV_sing]; exact hown') HT2.out HT2l.out.symm; clear hown' hgrow)
        go_ret3
        rw [HRe.out, if_pos HX.out.1, HX.out.2.1, HX.out.2.2, ← HT2.out]
        exact ⟨v', rfl, owns_base HN6.out O1.out.size, Out.trans O1.out O6.out⟩
  · have hlI' : (16777216 : Int) < l.length := by omega
    have hP : tokensP l = ([], 0, 50) := by unfold tokensP; rw [if_neg hl]
    rw [hP]
    go_enter Tryd.func13, Tryd.ntmps13
    go_wp2
    go_ret3
    exact ⟨.slice none 0 0, rfl, World.ownsRow_nil _ _ _ _, Out.refl _⟩
end Go.Proofs.YtfhmhdhaibmcfaaDoor
