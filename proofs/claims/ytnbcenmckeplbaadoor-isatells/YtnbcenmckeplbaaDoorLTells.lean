import Derived.Test.YtnbcenmckeplbaaDoorNi
import Derived.Test.YtnbcenmckeplbaaDoorCm
namespace Go.Proofs.YtnbcenmckeplbaaDoor
open Go.RowKit Go.Sort
set_option linter.unusedVariables false
set_option linter.unusedSimpArgs false
set_option maxRecDepth 20000

theorem lists_len (o d s f i : Int) : (writesP o d s f i).length ≤ 1000 ∧ (readsP o d s f i).length ≤ 1000 := by
  rcases may_vals2 o d s f i with hm | hm
  · obtain ⟨a, b⟩ := within_lists hm
    exact ⟨(within_of a).2, (within_of b).2⟩
  · rw [writesP, readsP, whole_bad hm]
    exact ⟨by simp [writesC], by simp [readsC]⟩
theorem isaTells_walk (a : Option Addr) (len cap : Nat) (w : World) (hi : IsInsns w a len) (hlen : len ≤ maxLen) (hA : TabA w) (hO : TabO w) : Calls Tryd.prog 5 #[.slice a len cap] w fun e w' => e = .returned (.bool true) ∧ Out w w' := by
  have hm : (len : Int) ≤ 9223372036854775807 := by simp only [maxLen] at hlen; omega
  go_enter Tryd.func5, Tryd.ntmps5
  go_wp2
  go_loopw [3] (fun j wr => ∃ k : Nat, k ≤ len ∧ j = .int .i64 k ∧ Out w wr) (fun j _ => len - (intOf j).toNat)
  case atStart => exact ⟨0, by omega, rfl, Out.refl _⟩
  case round =>
    obtain ⟨k, hk, rfl, hor⟩ := hrel
    by_cases hkl : k < len
    · rcases hi with hz | ⟨b, off, rfl, hc⟩
      · omega
      obtain ⟨A, B, C, D, E, c0, c1, c2, c3, c4⟩ := hc k hkl
      have q0 := cell_later hor c0
      have q1 := cell_later hor c1
      have q2 := cell_later hor c2
      have q3 := cell_later hor c3
      have q4 := cell_later hor c4
      obtain ⟨lw1, lr1⟩ := lists_len A B C D E
      have hwr := fun w a b => writes_any A B C D E w a b
      have hre := fun w a b => reads_any A B C D E w a b
      have hju := fun w a b => isaJumps_any A B C D E w a b
      have hwd := fun w => wide_any A B C D E w
      have gwr := fun w => refWrites_any A B C D E w
      have gre := fun w => refReads_any A B C D E w
      have gju := fun w => refJumps_any A B C D E w
      have gwd := fun w => refWide_any A B C D E w
      have hA0 := hA.out hor
      have hO0 := hO.out hor
      clear hc c0 c1 c2 c3 c4
      generalize writesP A B C D E = lw at *
      generalize readsP A B C D E = lr at *
      generalize jumpsP A B C D E = J at *
      generalize (A == 24) = wd at *
      have hJ : (J != J) = false := by simp
      go_wp2_with (first | (go_at_call 18; refine (hwr _ (hA0.alloc _) (hO0.alloc _)).mono ?_; rintro e w1 ⟨v1, rfl, n1, h1⟩; have t1 := box_rule2 h1; clear hwr) | (go_at_call 19; refine (hre _ ((hA0.alloc _).out h1) ((hO0.alloc _).out h1)).mono ?_; rintro e w2 ⟨v2, rfl, n2, h2⟩; have H2 := Out.trans h1 h2; have t2 := box_rule2 H2; clear hre) | (go_at_call 20; refine (hju _ ((hA0.alloc _).out H2) ((hO0.alloc _).out H2)).mono ?_; rintro e w3 ⟨rfl, h3⟩; have H3 := Out.trans H2 h3; have t3 := box_rule2 H3; clear hju) | (go_at_call 21; refine (hwd _).mono ?_; rintro e w4 ⟨rfl, h4⟩; have H4 := Out.trans H3 h4; have t4 := box_rule2 H4; clear hwd) | (go_at_call 22; refine (gwr _).mono ?_; rintro e w5 ⟨v5, rfl, n5, h5⟩; have H5 := Out.trans H4 h5; have t5 := box_rule2 H5; clear gwr) | (go_at_call 23; refine (gre _).mono ?_; rintro e w7 ⟨v7, rfl, n7, h7⟩; have H7 := Out.trans H6 h7; have t7 := box_rule2 H7; clear gre) | (go_at_call 24; refine (gju _).mono ?_; rintro e w9 ⟨rfl, h9⟩; have H9 := Out.trans H8 h9; have t9 := box_rule2 H9; clear gju) | (go_at_call 25; refine (gwd _).mono ?_; rintro e w10 ⟨rfl, h10⟩; have H10 := Out.trans H9 h10; clear gwd) | (go_at_call 17; have _t := lw1; refine (same_any (l := lw) (by omega) ((nums_of_own n1).out (Out.trans h2 (Out.trans h3 (Out.trans h4 h5)))) (nums_of_own n5)).mono ?_; rintro e w6 ⟨rfl, h6⟩; have H6 := Out.trans H5 h6; have t6 := box_rule2 H6; clear lw1) | (go_at_call 17; refine (same_any (l := lr) (by omega) ((nums_of_own n2).out (Out.trans h3 (Out.trans h4 (Out.trans h5 (Out.trans h6 h7))))) (nums_of_own n7)).mono ?_; rintro e w8 ⟨rfl, h8⟩; have H8 := Out.trans H7 h8; have t8 := box_rule2 H8))
      exact ⟨⟨k + 1, by omega, by simp, Out.trans hor (Out.trans (Out.alloc (Out.refl _) _) H10)⟩, by simp [intOf]; omega⟩
    · obtain rfl : k = len := by omega
      go_wp2_with (go_at_call 12; refine (awake_any _ (hA.out hor) (hO.out hor)).mono ?_; rintro e w1 ⟨rfl, h1⟩)
      go_ret
      exact ⟨rfl, Out.trans hor h1⟩
end Go.Proofs.YtnbcenmckeplbaaDoor
