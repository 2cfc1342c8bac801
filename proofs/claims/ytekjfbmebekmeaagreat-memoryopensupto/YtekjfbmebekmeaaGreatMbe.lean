import Derived.Test.YtekjfbmebekmeaaGreatMbd
import Derived.Shelf.SlSortCmp.QuietGrown
namespace Go.Proofs.YtekjfbmebekmeaaGreat
open Go.RowKit
set_option linter.unusedVariables false
set_option linter.unusedSimpArgs false
set_option maxHeartbeats 4000000 in
set_option maxRecDepth 100000 in
/-- sort.Search, by a function that turns nothing of what was there -/
theorem search_any (g : Nat) (cb : Array Value) (n : Nat) (p : Nat → Bool) (w : World) (eg : ∀ args w, (callFunc g args).run Tryz.prog w = .ok (.enter g args) w) (hsz : n < 4611686018427387904)
    (hf : ∀ wr i, Out w wr → i < n → Calls Tryz.prog g (#[.int .i64 (i : Nat)] ++ cb) wr fun e w' => e = .returned (.bool (p i)) ∧ Out wr w')
    (hmono : ∀ a b, a ≤ b → b < n → p a = true → p b = true) :
    Calls Tryz.prog 102 #[.int .i64 n, .func (.func g) #[] cb] w fun e w' => ∃ j : Nat, e = .returned (.int .i64 (j : Nat)) ∧ j ≤ n ∧ (∀ t, t < j → p t = false) ∧ (∀ t, j ≤ t → t < n → p t = true) ∧ Out w w' := by
  have HF := hidOf hf
  have M := hidOf hmono
  clear hf hmono
  go_enter Tryz.func102, Tryz.ntmps102
  go_wp2
  go_loopw [5, 6] (fun a b wr => ∃ lo hi : Nat, a = .int .i64 lo ∧ b = .int .i64 hi ∧ lo ≤ hi ∧ hi ≤ n ∧ Hid (Out w wr) ∧ Hid ((∀ t, t < lo → p t = false) ∧ (∀ t, hi ≤ t → t < n → p t = true))) (fun a b _ => (intOf b - intOf a).toNat)
  case atStart => exact ⟨0, n, rfl, rfl, Nat.zero_le _, Nat.le_refl _, hidOf (Out.refl w), hidOf ⟨fun t ht => absurd ht (Nat.not_lt_zero _), fun t h1 h2 => by omega⟩⟩
  case round =>
    obtain ⟨lo, hi, rfl, rfl, hlh, hin, HO, I⟩ := hrel
    by_cases hlt : lo < hi
    · have hc := HF.out wr ((lo + hi) / 2) HO.out (by omega)
      rw [show (((lo + hi) / 2 : Nat) : Int) = ((lo : Int) + (hi : Int)) / 2 by omega] at hc
      have HC := hidOf hc
      clear hc
      cases hp : p ((lo + hi) / 2)
      · have HP : Hid (p ((lo + hi) / 2) = false) := hp
        clear hp
        have hc := HC.out
        rw [HP.out] at hc
        go_wp2_with (go_at_fn g; refine hc.mono ?_; rintro e w1 ⟨rfl, ho1⟩; have HO1 := hidOf ho1; clear ho1)
        go_roundw
        case rel =>
          refine ⟨(lo + hi) / 2 + 1, hi, by rw [show ((lo : Int) + (hi : Int)) / 2 + 1 = (((lo + hi) / 2 + 1 : Nat) : Int) by omega], rfl, by omega, hin, hidOf (HO.out.trans HO1.out), hidOf ⟨fun t ht => ?_, I.out.2⟩⟩
          cases h : p t with
          | false => rfl
          | true => have := M.out t ((lo + hi) / 2) (by omega) (by omega) h; rw [HP.out] at this; cases this
        case measure => simp [intOf]; omega
      · have HP : Hid (p ((lo + hi) / 2) = true) := hp
        clear hp
        have hc := HC.out
        rw [HP.out] at hc
        go_wp2_with (go_at_fn g; refine hc.mono ?_; rintro e w1 ⟨rfl, ho1⟩; have HO1 := hidOf ho1; clear ho1)
        go_roundw
        case rel => exact ⟨lo, (lo + hi) / 2, rfl, by rw [show ((lo : Int) + (hi : Int)) / 2 = (((lo + hi) / 2 : Nat) : Int) by omega], by omega, by omega, hidOf (HO.out.trans HO1.out), hidOf ⟨I.out.1, fun t ht htn => M.out ((lo + hi) / 2) t ht htn HP.out⟩⟩
        case measure => simp [intOf]; omega
    · obtain rfl : hi = lo := by omega
      go_wp2
      go_ret
      exact ⟨hi, rfl, hin, I.out.1, I.out.2, HO.out⟩
end Go.Proofs.YtekjfbmebekmeaaGreat
