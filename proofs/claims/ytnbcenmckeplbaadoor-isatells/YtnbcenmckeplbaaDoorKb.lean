import Derived.Test.YtnbcenmckeplbaaDoorKa
namespace Go.Proofs.YtnbcenmckeplbaaDoor
open Go.RowKit
set_option linter.unusedVariables false
set_option linter.unusedSimpArgs false
set_option synthInstance.maxSize 4000 in
set_option synthInstance.maxHeartbeats 2000000 in
set_option maxHeartbeats 4000000 in
theorem class_kinds : ∀ l ∈ opsT, ∀ op ∈ l, (0 ≤ op ∧ op ≤ 255) ∧ ((bits .and .i64 op 7 = 0 ∧ formP op = 10 ∧ useS op 10 = false ∧ useI op 10 = true ∧ op = 24) ∨ (bits .and .i64 op 7 = 1 ∧ formP op = 4) ∨ (bits .and .i64 op 7 = 2 ∧ formP op = 5 ∧ useI op 5 = true) ∨ (bits .and .i64 op 7 = 3 ∧ formP op = 5 ∧ useS op 5 = true) ∨ (bits .and .i64 op 7 = 3 ∧ formP op = 6 ∧ groupP op 6 = 3) ∨ (bits .and .i64 op 7 = 4 ∧ formP op = 2 ∧ useS op 2 = false) ∨ (bits .and .i64 op 7 = 4 ∧ formP op = 3 ∧ useS op 3 = false ∧ useI op 3 = true ∧ bits .and .i64 op 8 = 0) ∨ (bits .and .i64 op 7 = 4 ∧ formP op = 3 ∧ useS op 3 = true ∧ useI op 3 = false ∧ bits .and .i64 op 8 = 8) ∨ (bits .and .i64 op 7 = 7 ∧ formP op = 2 ∧ useS op 2 = false) ∨ (bits .and .i64 op 7 = 7 ∧ formP op = 3 ∧ useS op 3 = false ∧ useI op 3 = true ∧ bits .and .i64 op 8 = 0) ∨ (bits .and .i64 op 7 = 7 ∧ formP op = 3 ∧ useS op 3 = true ∧ useI op 3 = false ∧ bits .and .i64 op 8 = 8) ∨ (bits .and .i64 op 7 = 5 ∧ formP op = 1) ∨ (bits .and .i64 op 7 = 5 ∧ formP op = 7) ∨ (bits .and .i64 op 7 = 5 ∧ formP op = 8 ∧ useS op 8 = false ∧ useI op 8 = true ∧ bits .and .i64 op 8 = 0) ∨ (bits .and .i64 op 7 = 5 ∧ formP op = 8 ∧ useS op 8 = true ∧ useI op 8 = false ∧ bits .and .i64 op 8 = 8) ∨ (bits .and .i64 op 7 = 5 ∧ formP op = 9) ∨ (bits .and .i64 op 7 = 6 ∧ formP op = 7) ∨ (bits .and .i64 op 7 = 6 ∧ formP op = 8 ∧ useS op 8 = false ∧ useI op 8 = true ∧ bits .and .i64 op 8 = 0) ∨ (bits .and .i64 op 7 = 6 ∧ formP op = 8 ∧ useS op 8 = true ∧ useI op 8 = false ∧ bits .and .i64 op 8 = 8)) := by decide +kernel
theorem form_mem (op : Int) (h : (formP op == 0) = false) : ∃ l ∈ opsT, op ∈ l := by
  apply Classical.byContradiction
  intro hn
  have := formIn_none op opsT 0 (fun x hx hop => hn ⟨x, hx, hop⟩)
  simp [formP, this] at h
theorem class_no (op : Int) (w : World) (hA : TabA w) (hO : TabO w) (hf : (formP op == 0) = true) : Calls Tryd.prog 8 #[.int .i64 op] w fun e w' => e = .returned (.bool true) ∧ Out w w' := by
  go_enter Tryd.func8, Tryd.ntmps8
  go_wp2_with (first | (go_at_call 14; refine (info_no_lit _ _ hO hf).mono ?_; rintro e w' ⟨rfl, rfl⟩) | (go_at_call 12; refine (awake_any _ (by repeat (first | exact hA | apply TabA.alloc)) (by repeat (first | exact hO | apply TabO.alloc))).mono ?_; rintro e w' ⟨rfl, hout⟩; have hcs := hout.cells))
  go_ret
  exact ⟨rfl, Out.trans (by repeat (first | exact Out.refl _ | apply Out.alloc)) hout⟩
theorem isaClass_walk (op : Int) (w : World) (hA : TabA w) (hO : TabO w) : Calls Tryd.prog 8 #[.int .i64 op] w fun e w' => e = .returned (.bool true) ∧ Out w w' := by
  cases hf : (formP op == 0)
  · obtain ⟨l, hl, ho⟩ := form_mem op hf
    obtain ⟨⟨b1, b2⟩, hk⟩ := class_kinds l hl op ho
    rcases hk with ⟨h0, h1, h2, h3, h4⟩ | ⟨h0, h1⟩ | ⟨h0, h1, h2⟩ | ⟨h0, h1, h2⟩ | ⟨h0, h1, h2⟩ | ⟨h0, h1, h2⟩ | ⟨h0, h1, h2, h3, h4⟩ | ⟨h0, h1, h2, h3, h4⟩ | ⟨h0, h1, h2⟩ | ⟨h0, h1, h2, h3, h4⟩ | ⟨h0, h1, h2, h3, h4⟩ | ⟨h0, h1⟩ | ⟨h0, h1⟩ | ⟨h0, h1, h2, h3, h4⟩ | ⟨h0, h1, h2, h3, h4⟩ | ⟨h0, h1⟩ | ⟨h0, h1⟩ | ⟨h0, h1, h2, h3, h4⟩ | ⟨h0, h1, h2, h3, h4⟩
    · exact class0 op w hA hO b1 b2 h0 h1 h2 h3 h4
    · exact class1 op w hA hO b1 b2 h0 h1
    · exact class2 op w hA hO b1 b2 h0 h1 h2
    · exact class3 op w hA hO b1 b2 h0 h1 h2
    · exact class4 op w hA hO b1 b2 h0 h1 h2
    · exact class5 op w hA hO b1 b2 h0 h1 h2
    · exact class6 op w hA hO b1 b2 h0 h1 h2 h3 h4
    · exact class7 op w hA hO b1 b2 h0 h1 h2 h3 h4
    · exact class8 op w hA hO b1 b2 h0 h1 h2
    · exact class9 op w hA hO b1 b2 h0 h1 h2 h3 h4
    · exact class10 op w hA hO b1 b2 h0 h1 h2 h3 h4
    · exact class11 op w hA hO b1 b2 h0 h1
    · exact class12 op w hA hO b1 b2 h0 h1
    · exact class13 op w hA hO b1 b2 h0 h1 h2 h3 h4
    · exact class14 op w hA hO b1 b2 h0 h1 h2 h3 h4
    · exact class15 op w hA hO b1 b2 h0 h1
    · exact class16 op w hA hO b1 b2 h0 h1
    · exact class17 op w hA hO b1 b2 h0 h1 h2 h3 h4
    · exact class18 op w hA hO b1 b2 h0 h1 h2 h3 h4
  · exact class_no op w hA hO hf
end Go.Proofs.YtnbcenmckeplbaaDoor
