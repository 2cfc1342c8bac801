import Derived.Test.YtfhmhdhaibmcfaaDoorFo
namespace Go.Proofs.YtfhmhdhaibmcfaaDoor
open Go.RowKit
set_option linter.unusedVariables false
set_option linter.unusedSimpArgs false
theorem refInner_of {c : Int} {b : Bool} (h : runP c = b) (w : World) : Calls Tryd.prog 65 #[.int .u8 c] w fun e w' => e = .returned (.bool b) ∧ w = w' := by rw [← h]; exact refInner_any c w
set_option maxHeartbeats 1000000 in
theorem refRun_any (s : ByteArray) (j : Nat) (hj : j ≤ s.size) (hs : s.size ≤ 4611686018427387904) (w : World) : Calls Tryd.prog 54 #[.string s, .int .i64 j] w fun e w' => e = .returned (.int .i64 ((j + runN (s.toList.drop j) : Nat) : Int)) ∧ w = w' := by
  have HN : Hid (∀ k, ((s.toList.drop j).take k).all runU = true → j + k ≤ s.size → (j + k = s.size ∨ ∃ b, s.toList[j + k]? = some b ∧ runU b = false) → runN (s.toList.drop j) = k) := fun k ha hk h => tw_len _ _ k ha (by rw [List.length_drop, lsize]; omega) (by
    rcases h with h | ⟨b, h1, h2⟩
    · left; rw [List.length_drop, lsize]; omega
    · right; exact ⟨b, by rw [List.getElem?_drop]; exact h1, h2⟩)
  go_enter Tryd.func54, Tryd.ntmps54
  go_wp2
  go_loopw [1] (fun nv wr => ∃ n k : Nat, n ≤ s.size ∧ nv = .int .i64 n ∧ Hid (n = j + k) ∧ Hid (((s.toList.drop j).take k).all runU = true) ∧ wr = w) (fun nv _ => s.size - (intOf nv).toNat)
  case atStart => exact ⟨j, 0, hj, rfl, hidOf rfl, hidOf (by simp), rfl⟩
  case round =>
    obtain ⟨n, k, hn, rfl, Hn, Ha, rfl⟩ := hrel
    by_cases hlt : n < s.size
    · have hltI : (n : Int) < s.size := by omega
      have Hg := hidOf (lget s n hlt)
      cases hr : runP (bI s[n])
      · have Hfin := hidOf (HN.out k Ha.out (by have := Hn.out; omega) (.inr ⟨_, by rw [← Hn.out]; exact Hg.out, hr⟩))
        go_wp2_with (go_at_call 65; refine (refInner_of hr _).mono ?_; rintro e w3 ⟨rfl, rfl⟩)
        go_ret
        exact ⟨by rw [Hfin.out, ← Hn.out]; rfl, rfl⟩
      · have Ha' := hidOf (all_step runU _ k _ Ha.out (by rw [List.getElem?_drop, ← Hn.out]; exact Hg.out) hr)
        go_wp2_with (go_at_call 65; refine (refInner_of hr _).mono ?_; rintro e w3 ⟨rfl, rfl⟩)
        go_roundw
        case rel => exact ⟨n + 1, k + 1, by omega, by simp, hidOf (by have := Hn.out; omega), Ha', trivial⟩
        case measure => simp [intOf]; omega
    · have hltI : ¬ (n : Int) < s.size := by omega
      have hns : n = s.size := by omega
      have Hfin := hidOf (HN.out k Ha.out (by have := Hn.out; omega) (.inl (by have := Hn.out; omega)))
      clear hns
      go_wp2
      go_ret
      exact ⟨by rw [Hfin.out, show (j : Int) + k = n by have := Hn.out; omega]; rfl, rfl⟩
end Go.Proofs.YtfhmhdhaibmcfaaDoor
