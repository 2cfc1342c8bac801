import Derived.Test.YtgephenkbbelcaaDoorLg
import Derived.Test.YtgephenkbbelcaaDoorLh
import Derived.Test.YtgephenkbbelcaaDoorPl
namespace Go.Proofs.YtgephenkbbelcaaDoor
open Go.RowKit
set_option linter.unusedVariables false
set_option linter.unusedSimpArgs false
theorem refWide3 (o : Int) (w : World) : Calls Tryd.prog 25 #[.int .i64 o] w fun e w' => e = .returned (.bool (isW o)) ∧ w = w' := by
  go_enter Tryd.func25, Tryd.ntmps25
  go_wp2
  go_ret
  exact ⟨rfl, rfl⟩
/-- the number in n bytes from a place on, the lowest first -/
def uN (B : List Int) (a : Nat) : Nat → Int
  | 0 => 0
  | n + 1 => gB B a + 256 * uN B (a + 1) n
theorem uN_lt (B : List Int) (hB : Byts B) : ∀ (n a : Nat), n ≤ 4 → 0 ≤ uN B a n ∧ uN B a n < 256 ^ n
  | 0, a, _ => by simp [uN]
  | n + 1, a, h => by
    have ih := uN_lt B hB n (a + 1) (by omega)
    have hb := hB a
    have e : (256 : Int) ^ (n + 1) = 256 * 256 ^ n := by rw [Int.pow_succ]; omega
    rw [e]
    simp only [uN]
    omega
/-- what value answers -/
def vlP (B : List Int) (at' k : Nat) (sg : Bool) : Int := if sg && decide (128 ≤ gB B (at' + k - 1)) then uN B at' k - 256 ^ k else uN B at' k
set_option maxRecDepth 20000 in
theorem value_any (w : World) (b off len cap : Nat) (B : List Int) (hlen : B.length = len) (hB : Byts B) (hc : ∀ k, k < len → w.cell? ⟨b, off + k, none⟩ = some (.int .u8 (gB B k))) (hll : len ≤ 100000000000000) (at' k : Nat) (hk : k = 2 ∨ k = 4) (hat : at' + k ≤ len) (sg : Bool) :
    Calls Tryd.prog 26 #[.slice (some ⟨b, off, none⟩) len cap, .int .i64 at', .int .i64 k, .bool sg] w fun e w' => e = .returned (.int .i64 (vlP B at' k sg)) ∧ w = w' := by
  have HB := hidOf hB
  have HC := hidOf hc
  have hk4 : k ≤ 4 := by omega
  have hk2 : 2 ≤ k := by omega
  have HK := hidOf hk
  clear hB hc hk
  go_enter Tryd.func26, Tryd.ntmps26
  go_wp2
  go_loopw [9, 10] (fun v i wr => ∃ j : Nat, j ≤ k ∧ i = .int .i64 ((j : Int) - 1) ∧ v = .int .i64 (uN B (at' + j) (k - j)) ∧ wr = w) (fun _ i _ => (intOf i + 1).toNat)
  case atStart => exact ⟨k, by omega, rfl, by rw [Nat.sub_self]; rfl, rfl⟩
  case round =>
    obtain ⟨j, hj, rfl, rfl, rfl⟩ := hrel
    cases j with
    | zero =>
      have hn : ¬ (0 : Int) ≤ ((0 : Nat) : Int) - 1 := by omega
      obtain ⟨u0, u1⟩ := uN_lt B HB.out k at' hk4
      have q := HC.out (at' + k - 1) (by omega)
      have hb := HB.out (at' + k - 1)
      have he : (at' : Int) + k - 1 = ((at' + k - 1 : Nat) : Int) := by omega
      have hl1 : ((at' + k - 1 : Nat) : Int) < len := by omega
      have hl0 : (0 : Int) ≤ ((at' + k - 1 : Nat) : Int) := by omega
      rw [show at' + 0 = at' from rfl, show k - 0 = k from rfl]
      have HV : Hid (vlP B at' k sg = if sg && decide (128 ≤ gB B (at' + k - 1)) then uN B at' k - 256 ^ k else uN B at' k) := hidOf rfl
      generalize uN B at' k = U at *
      obtain ⟨m, hm⟩ : ∃ m, m = at' + k - 1 := ⟨_, rfl⟩
      rw [← hm] at q hb he hl1 hl0 HV
      generalize gB B m = Y at *
      clear hm
      rcases HK.out with rfl | rfl
      · have u2 : U < 65536 := u1
        have he1 : (at' : Int) + 2 - 1 = m := he
        have he2 : (at' : Int) + 1 = m := by omega
        cases sg
        · go_wp2
          go_ret
          exact ⟨by show _ = Ending.returned (Value.int IntKind.i64 _); rw [HV.out]; rfl, rfl⟩
        · by_cases h128 : (128 : Int) ≤ Y
          · go_wp2
            go_ret
            exact ⟨(by show _ = Ending.returned (Value.int IntKind.i64 _); rw [HV.out]; simp [h128]; try (intro; omega)), rfl⟩
          · go_wp2
            go_ret
            exact ⟨(by show _ = Ending.returned (Value.int IntKind.i64 _); rw [HV.out]; simp [h128]; try (intro; omega)), rfl⟩
      · have u2 : U < 4294967296 := u1
        have he1 : (at' : Int) + 4 - 1 = m := he
        have he2 : (at' : Int) + 3 = m := by omega
        cases sg
        · go_wp2
          go_ret
          exact ⟨by show _ = Ending.returned (Value.int IntKind.i64 _); rw [HV.out]; rfl, rfl⟩
        · by_cases h128 : (128 : Int) ≤ Y
          · go_wp2
            go_ret
            exact ⟨(by show _ = Ending.returned (Value.int IntKind.i64 _); rw [HV.out]; simp [h128]; try (intro; omega)), rfl⟩
          · go_wp2
            go_ret
            exact ⟨(by show _ = Ending.returned (Value.int IntKind.i64 _); rw [HV.out]; simp [h128]; try (intro; omega)), rfl⟩
    | succ j =>
      have hn : (0 : Int) ≤ ((j + 1 : Nat) : Int) - 1 := by omega
      have hd : k - j = k - (j + 1) + 1 := by omega
      have He : Hid (256 * uN B (at' + (j + 1)) (k - (j + 1)) + gB B (at' + j) = uN B (at' + j) (k - j)) := hidOf (by rw [hd]; simp only [uN]; rw [show at' + j + 1 = at' + (j + 1) by omega]; omega)
      obtain ⟨u0, u1⟩ := uN_lt B HB.out (k - (j + 1)) (at' + (j + 1)) (by omega)
      have u2 : uN B (at' + (j + 1)) (k - (j + 1)) < 4294967296 := Int.lt_of_lt_of_le u1 (by
        obtain h | h | h | h : k - (j + 1) = 0 ∨ k - (j + 1) = 1 ∨ k - (j + 1) = 2 ∨ k - (j + 1) = 3 := by omega
        all_goals rw [h]; decide)
      have q := HC.out (at' + j) (by omega)
      have hb := HB.out (at' + j)
      have hs : ((j + 1 : Nat) : Int) - 1 = j := by omega
      have he : (at' : Int) + j = ((at' + j : Nat) : Int) := by omega
      have hl1 : ((at' + j : Nat) : Int) < len := by omega
      have hl0 : (0 : Int) ≤ ((at' + j : Nat) : Int) := by omega
      obtain ⟨m, hm⟩ : ∃ m, m = at' + j := ⟨_, rfl⟩
      rw [← hm] at q hb he hl1 hl0 He
      rw [hs] at hn ⊢
      clear u1
      generalize uN B (at' + (j + 1)) (k - (j + 1)) = U at *
      generalize gB B m = Y at *
      have HZ : Hid (256 * U + Y = uN B (at' + j) (k - j)) := hidOf (by rw [← hm]; exact He.out)
      clear hm He
      go_wp2
      go_roundw
      case rel => exact ⟨j, by omega, by first | rfl | trivial | simp, by rw [← HZ.out], by first | rfl | trivial⟩
      case measure => simp [intOf]
end Go.Proofs.YtgephenkbbelcaaDoor
