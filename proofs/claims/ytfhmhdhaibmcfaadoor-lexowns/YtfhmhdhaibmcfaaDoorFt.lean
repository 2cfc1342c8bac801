import Derived.Test.YtfhmhdhaibmcfaaDoorFs
namespace Go.Proofs.YtfhmhdhaibmcfaaDoor
open Go.RowKit
set_option linter.unusedVariables false
set_option linter.unusedSimpArgs false
set_option maxRecDepth 20000 in
set_option maxHeartbeats 3000000 in
theorem turned_any (w : World) (a : Option Addr) (cap : Nat) (l : List UInt8) (hr : RestAt w.heap.size w a l) (hll : l.length ≤ 140737488351232) : Calls Tryd.prog 10 #[.slice a l.length cap] w fun e w' => ∃ v, e = .returned v ∧ ∃ O, O.length = l.length ∧ OwB w.heap.size v O w' ∧ Out w w' := by
  have HR := hidOf hr
  obtain ⟨i0, hi, hz0, hz1, hz2⟩ := info_parts infoB
  clear hr
  go_enter Tryd.func10, Tryd.ntmps10
  go_wp2
  go_loopw [3, 4] (fun lv kv wr => ∃ (k : Nat) (O : List UInt8) (al : Option Addr) (cl : Nat), lv = .slice al O.length cl ∧ kv = .int .i64 k ∧ k ≤ l.length ∧ O.length = k ∧ Hid (OwB w.heap.size (.slice al O.length cl) O wr) ∧ Hid (Out w wr)) (fun _ kv _ => l.length - (intOf kv).toNat)
  case atStart => exact ⟨0, [], none, 0, rfl, rfl, by omega, rfl, hidOf (World.ownsRow_nil _ _ _ _), hidOf (Out.refl w)⟩
  case round =>
    obtain ⟨k, O, al, cl, rfl, rfl, hk, hOl, HOB, HO⟩ := hrel
    by_cases hlt : k < l.length
    · have hltI : (k : Int) < l.length := by omega
      obtain ⟨y, hy⟩ : ∃ y, l[k]? = some y := ⟨_, List.getElem?_eq_getElem hlt⟩
      obtain ⟨g, o, hg, rfl, hcx⟩ : ∃ g o, g < w.heap.size ∧ a = some ⟨g, o, none⟩ ∧ ∀ k y, l[k]? = some y → w.cell? ⟨g, o + k, none⟩ = some (.int .u8 (y.toNat : Int)) := by
        rcases HR.out with h | h
        · rw [h] at hlt; simp at hlt
        · exact h
      have qy := cell_later HO.out (hcx k y hy)
      have hy256 := y.toNat_lt
      clear hcx hy
      by_cases d1 : 49 ≤ y.toNat
      · have d1I : (49 : Int) ≤ y.toNat := by omega
        by_cases d2 : y.toNat ≤ 56
        · have d2I : (y.toNat : Int) ≤ 56 := by omega
          obtain ⟨z, hz⟩ : ∃ z : UInt8, (y.toNat : Int) + 1 = (z.toNat : Int) := ⟨UInt8.ofNat (y.toNat + 1), by rw [UInt8.toNat_ofNat_of_lt' (by show y.toNat + 1 < 256; omega)]; omega⟩
          obtain ⟨P, hP⟩ : ∃ P, P = O ++ [z] := ⟨_, rfl⟩
          have hPl : P.length = k + 1 := by rw [hP]; simp; omega
          have HP := hidOf hP
          have HPl := hidOf hPl
          have HOl := hidOf hOl
          clear hP hPl hOl
          go_wp2_with (at_builtin; refine wpList_append_own _ rfl (.tmp 34) (.tmp 36) 22 rfl w.heap.size 5 i0 _ 1 1 Tryd.underlying22 hi hz0 hz1 hz2 rfl (by decide) (.slice al O.length cl) O.length (Lib.byteCells O) rfl (HOB.out.out ((Out.refl wr).alloc _)) ⟨wr.heap.size, 0, none⟩ 1 1 [.int .u8 (z.toNat : Int)] rfl rfl (news_new wr _ _ _ rfl) (fun u hu => by rw [List.mem_singleton.1 hu]; rfl) (by unfold maxLen; have := HOl.out; omega) (by have := HOl.out; omega) (by have := HO.out.size; rw [size_alloc]; omega) ?_; intro v' w3 hown' hgrow _; have H3 := hidOf (out_own rfl (HOB.out.out ((Out.refl wr).alloc _)) (HO.out.alloc _) hgrow); have HN : Hid (OwB w.heap.size v' P w3) := OwB.mk (P := [z]) hown' HP.out (by rw [HPl.out, HOl.out]); obtain ⟨ad', cp', rfl⟩ : ∃ ad cp, v' = .slice ad P.length cp := own_form HN.out; clear hown' hgrow)
          go_roundw
          case rel => exact ⟨k + 1, P, ad', cp', rfl, by simp, by omega, HPl.out, HN, H3⟩
          case measure => simp [intOf]; omega
        · have d2I : ¬ (y.toNat : Int) ≤ 56 := by omega
          by_cases d3 : 97 ≤ y.toNat
          · have d3I : (97 : Int) ≤ y.toNat := by omega
            by_cases d4 : y.toNat ≤ 121
            · have d4I : (y.toNat : Int) ≤ 121 := by omega
              obtain ⟨z, hz⟩ : ∃ z : UInt8, (y.toNat : Int) + 1 = (z.toNat : Int) := ⟨UInt8.ofNat (y.toNat + 1), by rw [UInt8.toNat_ofNat_of_lt' (by show y.toNat + 1 < 256; omega)]; omega⟩
              obtain ⟨P, hP⟩ : ∃ P, P = O ++ [z] := ⟨_, rfl⟩
              have hPl : P.length = k + 1 := by rw [hP]; simp; omega
              have HP := hidOf hP
              have HPl := hidOf hPl
              have HOl := hidOf hOl
              clear hP hPl hOl
              go_wp2_with (at_builtin; refine wpList_append_own _ rfl (.tmp 34) (.tmp 36) 22 rfl w.heap.size 5 i0 _ 1 1 Tryd.underlying22 hi hz0 hz1 hz2 rfl (by decide) (.slice al O.length cl) O.length (Lib.byteCells O) rfl (HOB.out.out ((Out.refl wr).alloc _)) ⟨wr.heap.size, 0, none⟩ 1 1 [.int .u8 (z.toNat : Int)] rfl rfl (news_new wr _ _ _ rfl) (fun u hu => by rw [List.mem_singleton.1 hu]; rfl) (by unfold maxLen; have := HOl.out; omega) (by have := HOl.out; omega) (by have := HO.out.size; rw [size_alloc]; omega) ?_; intro v' w3 hown' hgrow _; have H3 := hidOf (out_own rfl (HOB.out.out ((Out.refl wr).alloc _)) (HO.out.alloc _) hgrow); have HN : Hid (OwB w.heap.size v' P w3) := OwB.mk (P := [z]) hown' HP.out (by rw [HPl.out, HOl.out]); obtain ⟨ad', cp', rfl⟩ : ∃ ad cp, v' = .slice ad P.length cp := own_form HN.out; clear hown' hgrow)
              go_roundw
              case rel => exact ⟨k + 1, P, ad', cp', rfl, by simp, by omega, HPl.out, HN, H3⟩
              case measure => simp [intOf]; omega
            · have d4I : ¬ (y.toNat : Int) ≤ 121 := by omega
              obtain ⟨z, hz⟩ : ∃ z : UInt8, (y.toNat : Int) = (z.toNat : Int) := ⟨y, rfl⟩
              obtain ⟨P, hP⟩ : ∃ P, P = O ++ [z] := ⟨_, rfl⟩
              have hPl : P.length = k + 1 := by rw [hP]; simp; omega
              have HP := hidOf hP
              have HPl := hidOf hPl
              have HOl := hidOf hOl
              clear hP hPl hOl
              go_wp2_with (at_builtin; refine wpList_append_own _ rfl (.tmp 34) (.tmp 36) 22 rfl w.heap.size 5 i0 _ 1 1 Tryd.underlying22 hi hz0 hz1 hz2 rfl (by decide) (.slice al O.length cl) O.length (Lib.byteCells O) rfl (HOB.out.out ((Out.refl wr).alloc _)) ⟨wr.heap.size, 0, none⟩ 1 1 [.int .u8 (z.toNat : Int)] rfl rfl (news_new wr _ _ _ rfl) (fun u hu => by rw [List.mem_singleton.1 hu]; rfl) (by unfold maxLen; have := HOl.out; omega) (by have := HOl.out; omega) (by have := HO.out.size; rw [size_alloc]; omega) ?_; intro v' w3 hown' hgrow _; have H3 := hidOf (out_own rfl (HOB.out.out ((Out.refl wr).alloc _)) (HO.out.alloc _) hgrow); have HN : Hid (OwB w.heap.size v' P w3) := OwB.mk (P := [z]) hown' HP.out (by rw [HPl.out, HOl.out]); obtain ⟨ad', cp', rfl⟩ : ∃ ad cp, v' = .slice ad P.length cp := own_form HN.out; clear hown' hgrow)
              go_roundw
              case rel => exact ⟨k + 1, P, ad', cp', rfl, by simp, by omega, HPl.out, HN, H3⟩
              case measure => simp [intOf]; omega
          · have d3I : ¬ (97 : Int) ≤ y.toNat := by omega
            obtain ⟨z, hz⟩ : ∃ z : UInt8, (y.toNat : Int) = (z.toNat : Int) := ⟨y, rfl⟩
            obtain ⟨P, hP⟩ : ∃ P, P = O ++ [z] := ⟨_, rfl⟩
            have hPl : P.length = k + 1 := by rw [hP]; simp; omega
            have HP := hidOf hP
            have HPl := hidOf hPl
            have HOl := hidOf hOl
            clear hP hPl hOl
            go_wp2_with (at_builtin; refine wpList_append_own _ rfl (.tmp 34) (.tmp 36) 22 rfl w.heap.size 5 i0 _ 1 1 Tryd.underlying22 hi hz0 hz1 hz2 rfl (by decide) (.slice al O.length cl) O.length (Lib.byteCells O) rfl (HOB.out.out ((Out.refl wr).alloc _)) ⟨wr.heap.size, 0, none⟩ 1 1 [.int .u8 (z.toNat : Int)] rfl rfl (news_new wr _ _ _ rfl) (fun u hu => by rw [List.mem_singleton.1 hu]; rfl) (by unfold maxLen; have := HOl.out; omega) (by have := HOl.out; omega) (by have := HO.out.size; rw [size_alloc]; omega) ?_; intro v' w3 hown' hgrow _; have H3 := hidOf (out_own rfl (HOB.out.out ((Out.refl wr).alloc _)) (HO.out.alloc _) hgrow); have HN : Hid (OwB w.heap.size v' P w3) := OwB.mk (P := [z]) hown' HP.out (by rw [HPl.out, HOl.out]); obtain ⟨ad', cp', rfl⟩ : ∃ ad cp, v' = .slice ad P.length cp := own_form HN.out; clear hown' hgrow)
            go_roundw
            case rel => exact ⟨k + 1, P, ad', cp', rfl, by simp, by omega, HPl.out, HN, H3⟩
            case measure => simp [intOf]; omega
      · have d1I : ¬ (49 : Int) ≤ y.toNat := by omega
        have d3I : ¬ (97 : Int) ≤ y.toNat := by omega
        obtain ⟨z, hz⟩ : ∃ z : UInt8, (y.toNat : Int) = (z.toNat : Int) := ⟨y, rfl⟩
        obtain ⟨P, hP⟩ : ∃ P, P = O ++ [z] := ⟨_, rfl⟩
        have hPl : P.length = k + 1 := by rw [hP]; simp; omega
        have HP := hidOf hP
        have HPl := hidOf hPl
        have HOl := hidOf hOl
        clear hP hPl hOl
        go_wp2_with (at_builtin; refine wpList_append_own _ rfl (.tmp 34) (.tmp 36) 22 rfl w.heap.size 5 i0 _ 1 1 Tryd.underlying22 hi hz0 hz1 hz2 rfl (by decide) (.slice al O.length cl) O.length (Lib.byteCells O) rfl (HOB.out.out ((Out.refl wr).alloc _)) ⟨wr.heap.size, 0, none⟩ 1 1 [.int .u8 (z.toNat : Int)] rfl rfl (news_new wr _ _ _ rfl) (fun u hu => by rw [List.mem_singleton.1 hu]; rfl) (by unfold maxLen; have := HOl.out; omega) (by have := HOl.out; omega) (by have := HO.out.size; rw [size_alloc]; omega) ?_; intro v' w3 hown' hgrow _; have H3 := hidOf (out_own rfl (HOB.out.out ((Out.refl wr).alloc _)) (HO.out.alloc _) hgrow); have HN : Hid (OwB w.heap.size v' P w3) := OwB.mk (P := [z]) hown' HP.out (by rw [HPl.out, HOl.out]); obtain ⟨ad', cp', rfl⟩ : ∃ ad cp, v' = .slice ad P.length cp := own_form HN.out; clear hown' hgrow)
        go_roundw
        case rel => exact ⟨k + 1, P, ad', cp', rfl, by simp, by omega, HPl.out, HN, H3⟩
        case measure => simp [intOf]; omega
    · have hltI : ¬ (k : Int) < l.length := by omega
      have hkl : O.length = l.length := by omega
      have HK := hidOf hkl
      clear hkl hOl
      go_wp2
      go_ret
      exact ⟨_, rfl, O, HK.out, HOB.out, HO.out⟩
end Go.Proofs.YtfhmhdhaibmcfaaDoor
