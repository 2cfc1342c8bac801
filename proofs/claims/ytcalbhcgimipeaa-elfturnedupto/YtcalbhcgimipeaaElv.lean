import Derived.Test.YtcalbhcgimipeaaElm
namespace Go.Proofs.Ytcalbhcgimipeaa
open Go.RowKit
set_option linter.unusedVariables false
set_option linter.unusedSimpArgs false
set_option maxRecDepth 40000 in
set_option maxHeartbeats 4000000 in
theorem write_noname (B : Nat) (a : Option Addr) (c : Nat) (L : List SV) (w : World) (h : ScAt B w a L) (hB : B ≤ w.heap.size) (hc : L.length ≤ c) (hl : L.length ≤ 16) (hb : L.any (fun x => badP x.s) = false) (hn : ¬ (∀ x ∈ nmsS (secs L), nameOk x = true)) :
    Calls Try.prog 12 #[.slice a L.length c] w fun e w' => e = .returned (.tuple #[.slice none 0 0, .int .i64 92]) ∧ Out w w' := by
  have HC := hidOf (contains_any B a c L w h hB hc (by omega))
  rw [hb] at HC
  have HCl := hidOf (fun wx (o : Out w wx) => cloneV_any B a c L wx (h.below (Below.mono o hB)) (by omega))
  have hlI : ¬ (16 : Int) < L.length := by omega
  have hlN : (L.length : Int) ≤ 16 := by omega
  obtain ⟨i0, hi, hz0, hz1, hz2⟩ := info_parts infoSc
  have Hn := hidOf hn
  clear h hn
  go_enter Try.func12, Try.ntmps12
  go_upto_region 4 with (first | (go_at_call 31; refine (HC.out).mono ?_; rintro e w1 ⟨rfl, hO1⟩; have HO1 := hidOf hO1; clear hO1) | (go_at_call 33; refine (HCl.out _ HO1.out).mono ?_; rintro e w2 ⟨av, cv, rfl, hV, hO2⟩; have HV : Hid (OwV w.heap.size (.slice av L.length cv) L w2) := own_base hV HO1.out.size; have HO2 := hidOf (HO1.out.trans hO2); have hs2 : w.heap.size ≤ w2.heap.size := HO2.out.size; clear hV hO2) | (at_builtin; refine wpList_append_own _ rfl (.tmp 23) (.tmp 25) 24 rfl w.heap.size 60 i0 _ 8 88 Try.underlying24 hi hz0 hz1 hz2 rfl (by decide) (.slice av L.length cv) L.length (svV L) rfl (World.ownsRow.alloc HV.out _) ⟨w2.heap.size, 0, none⟩ 1 1 t0.cs rfl rfl (news_new w2 _ _ _ rfl) (svV_one [t0]) (by unfold maxLen; omega) (by omega) (by rw [size_alloc]; omega) ?_; intro v3 w3 hown3 hgrow3 _; have HO3 := hidOf hown3; have Hw3 := hidOf (out_rowN (HO2.out.alloc _) (World.ownsRow.alloc HV.out _) hgrow3); clear hgrow3; obtain ⟨ga, ca, rfl⟩ := own_some hown3 (by omega); clear hown3))
  clear HC HCl HV HO1 HO2 hs2
  have hlen : (L ++ [t0]).length = L.length + 1 := by simp
  have HV3 : Hid (OwV w.heap.size (.slice (some ⟨ga, 0, none⟩) (L.length + 1) ca) (L ++ [t0]) w3) := by
    have := HO3.out
    show World.ownsRow _ _ _ _ _ _ _
    rw [hlen, svV_app]
    simpa [svV] using this
  obtain ⟨hat3, hca, hbad⟩ := HV3.out.at
  clear hbad
  have CN := hidOf (addNames_any w3.heap.size (some ⟨ga, 0, none⟩) ca (L ++ [t0]) w3 hat3 (Nat.le_refl _) hca (by omega))
  rw [nms_secs, pls_secs, hlen] at CN
  have CN2 : Hid (Calls Try.prog 34 #[.slice (some ⟨ga, 0, none⟩) (L.length + 1) ca] w3 fun e w' => e = .returned (.tuple #[.slice none 0 0, .slice none 0 0, .int .i64 81]) ∧ Out w3 w') := by
    refine (CN.out).mono ?_
    rintro e w' ⟨ho, ⟨hok, _⟩ | ⟨_, he⟩⟩
    · exact absurd hok Hn.out
    · exact ⟨he, ho⟩
  clear CN hat3 hca HO3 hlen
  go_wp2_with (go_at_call 34; refine (CN2.out).mono ?_; rintro e w4 ⟨rfl, hO4⟩; have HO4 := hidOf hO4; clear hO4)
  go_ret2
  exact ⟨rfl, Hw3.out.trans HO4.out⟩
end Go.Proofs.Ytcalbhcgimipeaa
