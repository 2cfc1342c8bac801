import Derived.Test.YtdffhnboehjeoaaWk
import Derived.Test.YtdffhnboehjeoaaWu
import Derived.Test.YtdffhnboehjeoaaWv
import Derived.Test.YtdffhnboehjeoaaCs
import Derived.WalkKit
import Derived.WalkLawsBesides
import Derived.Outline
import Derived.LoopTactic
namespace Go.Proofs.Ytdffhnboehjeoaa
open Go.RowKit
set_option linter.unusedVariables false
set_option linter.unusedSimpArgs false

set_option maxRecDepth 100000 in
set_option maxHeartbeats 1000000 in
theorem WordSums_any (a0 : Option Addr) (len cap : Nat) (w : World) (hc : IsCases w a0 len) (hl : len ≤ maxLen) :
    Calls Try.prog 3 #[.slice a0 len cap] w fun e w' => e = .returned (.bool true) ∧ ∃ n, w' = w.drewN n := by
  unfold maxLen at hl
  go_enter Try.func3, Try.ntmps3
  go_wp2_with (go_at_call 9; refine (awake_any _).mono ?_; rintro e w' ⟨rfl, n, rfl⟩)
  go_loopw [3] (fun i wr => ∃ k : Nat, k ≤ len ∧ i = .int .i64 k ∧ ∃ n, wr = w.drewN n) (fun i _ => len - (intOf i).toNat)
  case atStart => exact ⟨0, Nat.zero_le _, rfl, _, rfl⟩
  case round =>
    obtain ⟨k, hk, rfl, n0, rfl⟩ := hrel
    by_cases hlt : k < len
    · rcases hc with hc | ⟨b, off, rfl, hc⟩
      · omega
      · obtain ⟨A, B, K, V, c0, c1, c2, c3, l0, l1, l2, l3, l4, l5⟩ := hc k hlt
        clear hc
        have f1 : (addW A B == IntKind.u64.wrap (A + B)) = true := beq_iff_eq.2 rfl
        have f2 : (subW A B == IntKind.u64.wrap (A - B)) = true := beq_iff_eq.2 rfl
        have f3 : (negW A == IntKind.u64.wrap (-A)) = true := beq_iff_eq.2 rfl
        have f4 : (andW A B != bitsK 0 A B) = false := bne_false rfl
        have f5 : (orW A B != bitsK 1 A B) = false := bne_false rfl
        have f6 : (xorW A B != bitsK 2 A B) = false := bne_false rfl
        go_wp2_with (first | (go_at_call 10; refine (Add_any _ _ _).mono ?_; rintro e w' ⟨rfl, hw⟩; have hw := hw.symm; subst hw) | (go_at_call 11; refine (Sub_any _ _ _).mono ?_; rintro e w' ⟨rfl, hw⟩; have hw := hw.symm; subst hw) | (go_at_call 13; refine (Mul_any _ _ _).mono ?_; rintro e w' ⟨rfl, hw⟩; have hw := hw.symm; subst hw) | (go_at_call 12; refine (Neg_any _ _).mono ?_; rintro e w' ⟨rfl, hw⟩; have hw := hw.symm; subst hw) | (go_at_call 15; refine (And_any _ _ _).mono ?_; rintro e w' ⟨rfl, hw⟩; have hw := hw.symm; subst hw) | (go_at_call 17; refine (Or_any _ _ _).mono ?_; rintro e w' ⟨rfl, hw⟩; have hw := hw.symm; subst hw) | (go_at_call 18; refine (Xor_any _ _ _).mono ?_; rintro e w' ⟨rfl, hw⟩; have hw := hw.symm; subst hw) | (go_at_call 14; refine (rMul_any _ _ _ (by omega) (by omega) (by omega) (by omega)).mono ?_; rintro e w' ⟨rfl, hw⟩; have hw := hw.symm; subst hw) | (go_at_call 16; refine (rBits_any _ _ _ _ (by omega) (by omega) (by omega) (by omega) (by omega) (by omega)).mono ?_; rintro e w' ⟨rfl, hw⟩; have hw := hw.symm; subst hw))
        exact ⟨⟨k + 1, by omega, congrArg (Value.int IntKind.i64) (by omega), (by first | exact ⟨_, rfl⟩ | (simp only [drewN_drewN]; exact ⟨_, rfl⟩) | exact ⟨0, rfl⟩)⟩, by simp [intOf]; omega⟩
    · go_wp2
      go_ret
      exact ⟨rfl, _, rfl⟩
end Go.Proofs.Ytdffhnboehjeoaa
