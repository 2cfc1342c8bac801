import Derived.Test.YtfhmhdhaibmcfaaDoorFw
namespace Go.Proofs.YtfhmhdhaibmcfaaDoor
open Go.RowKit
set_option linter.unusedVariables false
set_option linter.unusedSimpArgs false
theorem OwS.mk {B : Nat} {v : Value} {D P E : List (List UInt8)} {w : World} (h : w.ownsRow B 9 1 v (D.length + P.length) (sV D ++ sV P)) (he : E = D ++ P) : OwS B v E w := by
  unfold OwS
  rw [he, List.length_append]
  have : sV (D ++ P) = sV D ++ sV P := by simp [sV]
  rw [this]; exact h
theorem OwS.out {B : Nat} {v : Value} {O : List (List UInt8)} {w w' : World} (h : OwS B v O w) (o : Out w w') : OwS B v O w' := owns_chg (S := fun _ => False) h (fun _ _ h => h) (Chg.of_out o)
theorem own_outS {B n sz : Nat} {w X w1 : World} {e : TypeId} {v : Value} {xs : List Value} (hB : B = w.heap.size) (h : X.ownsRow B e sz v n xs) (o : Out w X) (hg : X.grownBy w1 v.ownBlock) : Out w w1 :=
  Chg.out (S := fun k => v.ownBlock = some k) (Chg.of_grown hg (fun k h => h)) o (fun k hk => by rw [← hB]; exact (h.lt k hk).1)
set_option maxRecDepth 20000 in
set_option maxHeartbeats 3000000 in
theorem refLines_any (w : World) (a : Option Addr) (cap : Nat) (l : List UInt8) (hr : RestAt w.heap.size w a l) (hcap : l.length ≤ cap) (hll : l.length ≤ 16777216) : Calls Tryd.prog 28 #[.slice a l.length cap] w fun e w' => ∃ v, e = .returned v ∧ OwS w.heap.size v (linesD l) w' ∧ Out w w' := by
  have HR := hidOf hr
  obtain ⟨i0, hi, hz0, hz1, hz2⟩ := info_parts infoS
  clear hr
  go_enter Tryd.func28, Tryd.ntmps28
  go_wp2
  go_loopw [3, 4, 5] (fun ov fv kv wr => ∃ (f j : Nat) (D : List (List UInt8)) (al : Option Addr) (cl : Nat), ov = .slice al D.length cl ∧ fv = .int .i64 f ∧ kv = .int .i64 j ∧ f ≤ j ∧ j ≤ l.length ∧ D.length ≤ f ∧ Hid (linesD l = D ++ linesD (l.drop f)) ∧ Hid (∀ k, f ≤ k → k < j → ¬ l[k]? = some 10) ∧ Hid (OwS w.heap.size (.slice al D.length cl) D wr) ∧ Hid (Out w wr)) (fun _ _ kv _ => l.length - (intOf kv).toNat)
  case atStart => exact ⟨0, 0, [], none, 0, rfl, rfl, rfl, by omega, by omega, by simp, hidOf rfl, hidOf (fun k h1 h2 => by omega), hidOf (World.ownsRow_nil _ _ _ _), hidOf (Out.refl w)⟩
  case round =>
    obtain ⟨f, j, D, al, cl, rfl, rfl, rfl, hf, hj, hDl, HL, HN, HOS, HO⟩ := hrel
    by_cases hlt : j < l.length
    · have hltI : (j : Int) < l.length := by omega
      obtain ⟨y, hy⟩ : ∃ y, l[j]? = some y := ⟨_, List.getElem?_eq_getElem hlt⟩
      obtain ⟨g, o, hg, rfl, hcx⟩ : ∃ g o, g < w.heap.size ∧ a = some ⟨g, o, none⟩ ∧ ∀ k y, l[k]? = some y → w.cell? ⟨g, o + k, none⟩ = some (.int .u8 (y.toNat : Int)) := by
        rcases HR.out with h | h
        · rw [h] at hlt; simp at hlt
        · exact h
      have qy := cell_later HO.out (hcx j y hy)
      have HC := hidOf (fun k y (h : l[k]? = some y) => cell_later HO.out (hcx k y h))
      have Hy := hidOf hy
      clear hcx hy
      by_cases hnl : y = 10
      · subst hnl
        have hcv : (convert 22 9 (.slice (some ⟨g, o + f, none⟩) (j - f) (cap - f))).run Tryd.prog wr = .ok (.string ⟨(lcutP l f j).toArray⟩) wr := by
          have := conv_rest (RestAt.piece (N := wr.heap.size) (World.block_lt_of_cell? _ _ qy) HC.out f j) (cap - f)
          rw [lcutP_len l f j (by omega)] at this
          exact this
        have HL2 : Hid (linesD l = (D ++ [lcutP l f j]) ++ linesD (l.drop (j + 1))) := by
          have e1 := ldrop_cut l f j 10 hf Hy.out
          rw [HL.out, linesD_cons (l.drop f) (by rw [e1]; simp), e1, lcut_at _ _ (lcutP_mem HN.out)]
          exact hidOf (by simp)
        obtain ⟨P, hP⟩ : ∃ P, P = lcutP l f j := ⟨_, rfl⟩
        rw [← hP] at hcv HL2
        clear hP
        obtain ⟨E, hE⟩ : ∃ E, E = D ++ [P] := ⟨_, rfl⟩
        have hEl : E.length = D.length + 1 := by rw [hE]; simp
        rw [← hE] at HL2
        have HE := hidOf hE
        have HEl := hidOf hEl
        clear hE hEl
        have hfI : (f : Int) ≤ j := by omega
        have hcI : (j : Int) ≤ cap := by omega
        have hcz : ¬ cap = f := by omega
        simp only [UInt8.reduceToNat] at qy
        go_wp2_with (at_builtin; refine wpList_append_own _ rfl (.tmp 17) (.tmp 23) 60 rfl w.heap.size 9 i0 _ 1 16 Tryd.underlying60 hi hz0 hz1 hz2 rfl (by decide) (.slice al D.length cl) D.length (sV D) rfl (OwS.out HOS.out ((Out.refl wr).alloc _)) ⟨wr.heap.size, 0, none⟩ 1 1 (sV [P]) rfl rfl (news_new wr _ _ _ rfl) (sV_one _) (by unfold maxLen; omega) (by omega) (by have := HO.out.size; rw [size_alloc]; omega) ?_; intro v' w6 hown' hgrow _; have O6 := hidOf (own_outS rfl (OwS.out HOS.out ((Out.refl wr).alloc _)) (HO.out.alloc _) hgrow); have HN6 : Hid (OwS w.heap.size v' E w6) := OwS.mk hown' HE.out; obtain ⟨ad', cp', rfl⟩ : ∃ ad cp, v' = .slice ad E.length cp := own_form HN6.out; clear hown' hgrow)
        go_roundw
        case rel => exact ⟨j + 1, j + 1, E, ad', cp', rfl, by simp, by simp, by omega, by omega, by have := HEl.out; omega, HL2, hidOf (fun k h1 h2 => by omega), HN6, O6⟩
        case measure => simp [intOf]; omega
      · have hnb : ((y.toNat : Int) == 10) = false := by
          simp only [beq_eq_false_iff_ne, ne_eq]
          intro e
          exact hnl (UInt8.toNat_inj.1 (by simp; omega))
        have HN2 : Hid (∀ k, f ≤ k → k < j + 1 → ¬ l[k]? = some 10) := fun k h1 h2 e => by
          by_cases hk : k < j
          · exact HN.out k h1 hk e
          · obtain rfl : k = j := by omega
            rw [Hy.out] at e
            exact hnl (Option.some.inj e)
        go_wp2
        go_roundw
        case rel => exact ⟨f, j + 1, D, al, cl, rfl, rfl, by simp, by omega, by omega, hDl, HL, HN2, HOS, HO⟩
        case measure => simp [intOf]; omega
    · have hltI : ¬ (j : Int) < l.length := by omega
      obtain rfl : j = l.length := by omega
      by_cases hfl : f < l.length
      · have hflI : (f : Int) < l.length := by omega
        obtain ⟨g, o, hg, rfl, hcx⟩ : ∃ g o, g < w.heap.size ∧ a = some ⟨g, o, none⟩ ∧ ∀ k y, l[k]? = some y → w.cell? ⟨g, o + k, none⟩ = some (.int .u8 (y.toNat : Int)) := by
          rcases HR.out with h | h
          · rw [h] at hfl; simp at hfl
          · exact h
        have hcv : (convert 22 9 (.slice (some ⟨g, o + f, none⟩) (l.length - f) (cap - f))).run Tryd.prog wr = .ok (.string ⟨(lcutP l f l.length).toArray⟩) wr := by
          have hgs := HO.out.size
          have := conv_rest (RestAt.piece (N := wr.heap.size) (by omega) (fun k y h => cell_later HO.out (hcx k y h)) f l.length) (cap - f)
          rw [lcutP_len l f l.length (by omega)] at this
          exact this
        have HL2 : Hid (linesD l = D ++ [lcutP l f l.length]) := by
          have e1 : l.drop f = lcutP l f l.length := by unfold lcutP; rw [List.take_of_length_le (by simp)]
          rw [HL.out, linesD_cons (l.drop f) (by intro h; have := congrArg List.length h; simp at this; omega), e1, lcut_none _ (lcutP_mem HN.out)]
          exact hidOf (by simp [linesD_nil])
        obtain ⟨P, hP⟩ : ∃ P, P = lcutP l f l.length := ⟨_, rfl⟩
        rw [← hP] at hcv HL2
        clear hP hcx
        obtain ⟨E, hE⟩ : ∃ E, E = D ++ [P] := ⟨_, rfl⟩
        have hEl : E.length = D.length + 1 := by rw [hE]; simp
        rw [← hE] at HL2
        have HE := hidOf hE
        clear hE hEl
        have hfI : (f : Int) ≤ l.length := by omega
        have hcI : (l.length : Int) ≤ cap := by omega
        have hcz : ¬ cap = f := by omega
        go_wp2_with (at_builtin; refine wpList_append_own _ rfl (.tmp 31) (.tmp 36) 60 rfl w.heap.size 9 i0 _ 1 16 Tryd.underlying60 hi hz0 hz1 hz2 rfl (by decide) (.slice al D.length cl) D.length (sV D) rfl (OwS.out HOS.out ((Out.refl wr).alloc _)) ⟨wr.heap.size, 0, none⟩ 1 1 (sV [P]) rfl rfl (news_new wr _ _ _ rfl) (sV_one _) (by unfold maxLen; omega) (by omega) (by have := HO.out.size; rw [size_alloc]; omega) ?_; intro v' w6 hown' hgrow _; have O6 := hidOf (own_outS rfl (OwS.out HOS.out ((Out.refl wr).alloc _)) (HO.out.alloc _) hgrow); have HN6 : Hid (OwS w.heap.size v' E w6) := OwS.mk hown' HE.out; clear hown' hgrow)
        go_ret
        exact ⟨v', rfl, by rw [HL2.out]; exact HN6.out, O6.out⟩
      · have hflI : ¬ (f : Int) < l.length := by omega
        have HL2 : Hid (linesD l = D) := by
          rw [HL.out, List.drop_of_length_le (by omega), linesD_nil, List.append_nil]; exact hidOf rfl
        go_wp2
        go_ret
        exact ⟨_, rfl, by rw [HL2.out]; exact HOS.out, HO.out⟩
end Go.Proofs.YtfhmhdhaibmcfaaDoor
