import Derived.Test.YtfhmhdhaibmcfaaDoorFm
import Derived.Laws.Externs
namespace Go.Proofs.YtfhmhdhaibmcfaaDoor
open Go.RowKit
set_option linter.unusedVariables false
set_option linter.unusedSimpArgs false
/-- the value of digits, as the reference reckons it -/
def valR (b : Nat) : Nat → List UInt8 → Option Nat
  | v, [] => some v
  | v, c :: r => if digR b (bI c) < 0 ∨ 18446744073709551616 ≤ v * b + (digR b (bI c)).toNat then none else valR b (v * b + (digR b (bI c)).toNat) r
def valE (b : Nat) (l : List UInt8) : Int × Bool := match valR b 0 l with | some v => ((v : Int), decide (0 < l.length)) | none => (0, false)
theorem digR_rng (b c : Int) (h0 : 0 ≤ c) (h1 : c ≤ 255) : digR b c = -1 ∨ ∃ d : Nat, digR b c = (d : Int) ∧ d ≤ 15 := by
  unfold digR
  split
  · exact .inr ⟨(c - 48).toNat, by omega, by omega⟩
  · split
    · exact .inr ⟨(c - 97 + 10).toNat, by omega, by omega⟩
    · split
      · exact .inr ⟨(c - 65 + 10).toNat, by omega, by omega⟩
      · exact .inl rfl
theorem add64 (x y : Int) (hx : 0 ≤ x) (hy : 0 ≤ y) (w : World) : (callFunc 81 #[.int .u64 x, .int .u64 y, .int .u64 0]).run Tryd.prog w = .ok (.value (.tuple #[.int .u64 ((x + y) % 18446744073709551616), .int .u64 ((x + y) / 18446744073709551616)])) w := by
  rw [run_callFunc_extern Tryd.func81 (by kernel_rfl) (by kernel_rfl) (by kernel_rfl) (e := add64Entry) (by kernel_rfl), run_add64 x y 0 hx hy (by omega) (by omega)]
  simp only [Result.andThen, Int.add_zero]
theorem refDigit_of {b c d : Int} (h : digR b c = d) (h0 : 0 ≤ c) (h1 : c ≤ 255) (w : World) : Calls Tryd.prog 79 #[.int .u8 c, .int .u64 b] w fun e w' => e = .returned (.int .i64 d) ∧ w = w' := by rw [← h]; exact refDigit_any c b w h0 h1
set_option maxRecDepth 20000 in
set_option maxHeartbeats 4000000 in
theorem refValue_any (s : ByteArray) (b : Nat) (hb : b ≤ 16) (hs : s.size ≤ 4611686018427387904) (w : World) : Calls Tryd.prog 66 #[.string s, .int .u64 b] w fun e w' => e = .returned (.tuple #[.int .u64 (valE b s.toList).1, .bool (valE b s.toList).2]) ∧ w = w' := by
  have HV : Hid (∀ k v, valR b 0 s.toList = valR b v (s.toList.drop k) → (valR b v (s.toList.drop k) = none → valE b s.toList = (0, false)) ∧ (k = s.size → valE b s.toList = ((v : Int), decide (0 < s.size)))) := fun k v h => ⟨fun h0 => by unfold valE; rw [h, h0], fun h0 => by
    unfold valE
    rw [h, List.drop_eq_nil_of_le (by rw [lsize]; omega), lsize]
    rfl⟩
  go_enter Tryd.func66, Tryd.ntmps66
  go_wp2
  go_loopw [6, 7] (fun vv iv wr => ∃ (k v : Nat), vv = .int .u64 v ∧ iv = .int .i64 k ∧ k ≤ s.size ∧ v < 18446744073709551616 ∧ Hid (valR b 0 s.toList = valR b v (s.toList.drop k)) ∧ wr = w) (fun _ iv _ => s.size - (intOf iv).toNat)
  case atStart => exact ⟨0, 0, rfl, rfl, by omega, by omega, hidOf (by simp), rfl⟩
  case round =>
    obtain ⟨k, v, rfl, rfl, hk, hv, Hv, rfl⟩ := hrel
    by_cases hlt : k < s.size
    · have hltI : (k : Int) < s.size := by omega
      have Hg := hidOf (lget s k hlt)
      have Hd : Hid (valR b v (s.toList.drop k) = if digR b (bI s[k]) < 0 ∨ 18446744073709551616 ≤ v * b + (digR b (bI s[k])).toNat then none else valR b (v * b + (digR b (bI s[k])).toNat) (s.toList.drop (k + 1))) := by
        rw [drop_at Hg.out]; exact hidOf rfl
      have hc1 : (0 : Int) ≤ (s[k].toNat : Int) := by omega
      have hc2 : (s[k].toNat : Int) ≤ 255 := by have := s[k].toNat_lt; omega
      obtain ⟨hi, hhi⟩ : ∃ hi, hi = v * b / 18446744073709551616 := ⟨_, rfl⟩
      obtain ⟨lo, hlo⟩ : ∃ lo, lo = v * b % 18446744073709551616 := ⟨_, rfl⟩
      have CM := hidOf (Tryd.bits_Mul64 v b hv (by omega) wr)
      rw [← hhi, ← hlo] at CM
      have hlo2 : lo < 18446744073709551616 := by omega
      have Hhl : Hid (v * b = hi * 18446744073709551616 + lo) := hidOf (by omega)
      have Hl2 := hidOf hlo2
      have Hv2 := hidOf hv
      clear hhi hlo hlo2 hv
      rcases digR_rng b (bI s[k]) hc1 hc2 with hd | ⟨d, hd, hd15⟩
      · have HD := hidOf hd
        have HF := hidOf ((HV.out k v Hv.out).1 (by rw [Hd.out, HD.out, if_pos (.inl (by decide))]))
        clear hd
        obtain ⟨sm, cy, ha⟩ : ∃ sm cy, ∀ w, (callFunc 81 #[.int .u64 (lo : Int), .int .u64 (IntKind.u64.wrap (-1)), .int .u64 0]).run Tryd.prog w = .ok (.value (.tuple #[.int .u64 sm, .int .u64 cy])) w := ⟨_, _, add64 (lo : Int) (IntKind.u64.wrap (-1)) (by omega) (by decide)⟩
        go_wp2_with (first | (go_at_call 79; refine (refDigit_of HD.out hc1 hc2 _).mono ?_; rintro e w' ⟨rfl, rfl⟩) | (go_at_call 80; refine CM.out.mono ?_; rintro e w' ⟨rfl, rfl⟩))
        go_ret2
        exact ⟨by rw [HF.out]; rfl, rfl⟩
      · have HD := hidOf hd
        rw [hd] at Hd
        simp only [Int.toNat_natCast] at Hd
        obtain ⟨sm, cy, ha, Hs⟩ : ∃ sm cy : Nat, (∀ w, (callFunc 81 #[.int .u64 (lo : Int), .int .u64 (d : Int), .int .u64 0]).run Tryd.prog w = .ok (.value (.tuple #[.int .u64 (sm : Int), .int .u64 (cy : Int)])) w) ∧ Hid (lo + d = cy * 18446744073709551616 + sm ∧ sm < 18446744073709551616) :=
          ⟨(lo + d) % 18446744073709551616, (lo + d) / 18446744073709551616, fun w => by rw [add64 (lo : Int) (d : Int) (by omega) (by omega)]; simp only [Int.natCast_emod, Int.natCast_ediv, Int.natCast_add]; rfl, hidOf (by omega)⟩
        have hdI : ¬ (d : Int) < 0 := by omega
        clear hd
        by_cases hh0 : 0 < hi
        · have hhI : (0 : Int) < hi := by omega
          have HF := hidOf ((HV.out k v Hv.out).1 (by rw [Hd.out, if_pos (.inr (by have := Hhl.out; omega))]))
          go_wp2_with (first | (go_at_call 79; refine (refDigit_of HD.out hc1 hc2 _).mono ?_; rintro e w' ⟨rfl, rfl⟩) | (go_at_call 80; refine CM.out.mono ?_; rintro e w' ⟨rfl, rfl⟩))
          go_ret2
          exact ⟨by rw [HF.out]; rfl, rfl⟩
        · have hhI : ¬ (0 : Int) < hi := by omega
          have HH : Hid (v * b = lo) := hidOf (by have := Hhl.out; omega)
          by_cases hc0 : 0 < cy
          · have hcI : (0 : Int) < cy := by omega
            have HF := hidOf ((HV.out k v Hv.out).1 (by rw [Hd.out, if_pos (.inr (by have := HH.out; have := Hs.out; omega))]))
            go_wp2_with (first | (go_at_call 79; refine (refDigit_of HD.out hc1 hc2 _).mono ?_; rintro e w' ⟨rfl, rfl⟩) | (go_at_call 80; refine CM.out.mono ?_; rintro e w' ⟨rfl, rfl⟩))
            go_ret2
            exact ⟨by rw [HF.out]; rfl, rfl⟩
          · have hcI : ¬ (0 : Int) < cy := by omega
            have Hsm : Hid (v * b + d = sm ∧ sm < 18446744073709551616) := hidOf (by have := HH.out; have := Hs.out; omega)
            have HN : Hid (valR b 0 s.toList = valR b sm (s.toList.drop (k + 1))) := by
              rw [Hv.out, Hd.out, if_neg (by have := Hsm.out; omega), Hsm.out.1]
              exact hidOf rfl
            go_wp2_with (first | (go_at_call 79; refine (refDigit_of HD.out hc1 hc2 _).mono ?_; rintro e w' ⟨rfl, rfl⟩) | (go_at_call 80; refine CM.out.mono ?_; rintro e w' ⟨rfl, rfl⟩))
            go_roundw
            case rel => exact ⟨k + 1, sm, rfl, by simp, by omega, Hsm.out.2, HN, trivial⟩
            case measure => simp [intOf]; omega
    · have hltI : ¬ (k : Int) < s.size := by omega
      have hks : k = s.size := by omega
      have Hfin := hidOf ((HV.out k v Hv.out).2 hks)
      clear hks hv
      go_wp2
      go_ret2
      exact ⟨by rw [Hfin.out]; rfl, rfl⟩
end Go.Proofs.YtfhmhdhaibmcfaaDoor
