import Derived.Test.YtoobdcjkhphlcaaRel
namespace Go.Proofs.Ytoobdcjkhphlcaa
open Go.RowKit
set_option linter.unusedVariables false
set_option linter.unusedSimpArgs false
theorem refMay_any (sl ki sy : Int) (w : World) : Calls Try.prog 28 #[.agg #[.int .i64 sl, .int .i64 ki, .int .i64 sy]] w fun e w' => e = .returned (.bool (decide (0 < mayP ⟨sl, ki, sy⟩))) ∧ Out w w' := by
  have HOb := hidOf ((Out.refl w).alloc (.cells #[.int .i64 sl, .int .i64 ki, .int .i64 sy] 27))
  have hcs : sl < 0 ∨ (¬ sl < 0 ∧ ¬ sl < 65536) ∨ (¬ sl < 0 ∧ sl < 65536 ∧ ¬ ki = 1 ∧ ¬ ki = 2) ∨ (¬ sl < 0 ∧ sl < 65536 ∧ (ki = 1 ∨ ki = 2) ∧ sy < 1) ∨ (¬ sl < 0 ∧ sl < 65536 ∧ (ki = 1 ∨ ki = 2) ∧ ¬ sy < 1 ∧ ¬ sy ≤ 4294967295) ∨ (¬ sl < 0 ∧ sl < 65536 ∧ (ki = 1 ∨ ki = 2) ∧ ¬ sy < 1 ∧ sy ≤ 4294967295) := by omega
  have hM : ∀ b, decide (0 < mayP ⟨sl, ki, sy⟩) = b ↔ (if (0 ≤ sl ∧ sl < 65536 ∧ 1 ≤ sy ∧ sy ≤ 4294967295) ∧ (ki = 1 ∨ ki = 2) then true else false) = b := by
    intro b
    have : (0 < mayP ⟨sl, ki, sy⟩) ↔ ((0 ≤ sl ∧ sl < 65536 ∧ 1 ≤ sy ∧ sy ≤ 4294967295) ∧ (ki = 1 ∨ ki = 2)) := by
      unfold mayP tyP
      by_cases h1 : 0 ≤ sl ∧ sl < 65536 ∧ 1 ≤ sy ∧ sy ≤ 4294967295
      · rw [if_pos h1]
        by_cases k1 : ki = 1
        · simp [k1, h1]
        · by_cases k2 : ki = 2
          · simp [k2, h1]
          · simp [k1, k2]
      · rw [if_neg h1]
        simp [h1]
    rw [decide_eq_decide.2 this]
    by_cases hh : (0 ≤ sl ∧ sl < 65536 ∧ 1 ≤ sy ∧ sy ≤ 4294967295) ∧ (ki = 1 ∨ ki = 2)
    · simp [hh]
    · rw [if_neg hh, decide_eq_false hh]
  rcases hcs with h | ⟨h1, h2⟩ | ⟨h1, h2, h3, h4⟩ | ⟨h1, h2, h3, h4⟩ | ⟨h1, h2, h3, h4, h5⟩ | ⟨h1, h2, h3, h4, h5⟩
  · rw [(hM false).2 (if_neg (by omega))]
    clear hM
    go_enter Try.func28, Try.ntmps28
    go_wp2
    go_ret
    exact ⟨rfl, HOb.out⟩
  · rw [(hM false).2 (if_neg (by omega))]
    clear hM
    go_enter Try.func28, Try.ntmps28
    go_wp2
    go_ret
    exact ⟨rfl, HOb.out⟩
  · rw [(hM false).2 (if_neg (by omega))]
    clear hM
    have b1 : (ki == 1) = false := by simp [h3]
    have b2 : (ki == 2) = false := by simp [h4]
    go_enter Try.func28, Try.ntmps28
    go_wp2
    go_ret
    exact ⟨rfl, HOb.out⟩
  · rw [(hM false).2 (if_neg (by omega))]
    clear hM
    rcases h3 with rfl | rfl
    all_goals
      go_enter Try.func28, Try.ntmps28
      go_wp2
      go_ret
      exact ⟨rfl, HOb.out⟩
  · rw [(hM false).2 (if_neg (by omega))]
    clear hM
    rcases h3 with rfl | rfl
    all_goals
      go_enter Try.func28, Try.ntmps28
      go_wp2
      go_ret
      exact ⟨rfl, HOb.out⟩
  · rw [(hM true).2 (if_pos (by omega))]
    clear hM
    rcases h3 with rfl | rfl
    all_goals
      go_enter Try.func28, Try.ntmps28
      go_wp2
      go_ret
      exact ⟨rfl, HOb.out⟩
theorem wrap_u8n (n : Nat) : IntKind.u8.wrap (n : Int) = ((UInt8.ofNat (n % 256)).toNat : Int) := by
  rw [IntKind.wrap_u8, UInt8.toNat_ofNat_of_lt' (by simp [UInt8.size]; omega)]
  omega
set_option maxRecDepth 8000 in
set_option maxHeartbeats 1000000 in
theorem laid_any (w : World) (n wd : Nat) (hw : wd ≤ 8) (hn : n ≤ 9223372036854775807) :
    Calls Try.prog 29 #[.int .i64 (n : Int), .int .i64 (wd : Int)] w fun e w' => ∃ a c, e = .returned (.slice a wd c) ∧ OwB w.heap.size (.slice a wd c) (leB n wd) w' ∧ Out w w' := by
  obtain ⟨i0, hi, hz0, hz1, hz2⟩ := info_parts infoB
  go_enter Try.func29, Try.ntmps29
  go_wp2
  go_loopw [6, 5, 0] (fun kv bv xv wr => ∃ (k x : Nat) (P : List UInt8) (a : Option Addr) (c : Nat), kv = .int .i64 k ∧ bv = .slice a P.length c ∧ xv = .int .i64 (x : Int) ∧ k ≤ wd ∧ x ≤ 9223372036854775807 ∧ Hid (x = n / 256 ^ k) ∧ Hid (P = leB n k) ∧ Hid (OwB w.heap.size (.slice a P.length c) P wr) ∧ Hid (Out w wr)) (fun kv _ _ _ => wd - (intOf kv).toNat)
  case atStart => exact ⟨0, n, [], none, 0, rfl, rfl, rfl, by omega, hn, hidOf (by simp), hidOf rfl, hidOf ⟨rfl, .inl ⟨rfl, rfl⟩⟩, hidOf (Out.refl _)⟩
  case round =>
    obtain ⟨k, x, P, a, c, rfl, rfl, rfl, hk, hxl, HX, HP, HO, HOu⟩ := hrel
    by_cases hkw : k < wd
    · have hklt : (k : Int) < wd := by omega
      have hk0 : (0 : Int) ≤ k := by omega
      have hx0 : (0 : Int) ≤ x := by omega
      have hPl : P.length + 1 ≤ 1000000000000 := by rw [HP.out, leB_len]; omega
      have Hby := hidOf (wrap_u8n x)
      have hsz := HOu.out.size
      go_wp2_with (at_builtin; refine wpList_append_own _ rfl (.tmp 12) (.tmp 15) 30 rfl w.heap.size 5 i0 _ 1 1 Try.underlying30 hi hz0 hz1 hz2 rfl (by decide) (.slice a P.length c) P.length (Lib.byteCells P) rfl (World.ownsRow.alloc HO.out _) ⟨wr.heap.size, 0, none⟩ 1 1 [.int .u8 (IntKind.u8.wrap (x : Int))] rfl rfl (news_new wr _ _ _ rfl) (fun u hu => by rw [List.mem_singleton.1 hu]; rfl) (by unfold maxLen; omega) (by omega) (by rw [size_alloc]; omega) ?_; intro v4 w4 hown4 hgrow4 _; have HO4 := hidOf hown4; have Hg4 := hidOf hgrow4; clear hgrow4; obtain ⟨a4, c4, rfl⟩ := own_form hown4; clear hown4)
      have e2 : leB n (k + 1) = P ++ [UInt8.ofNat (x % 256)] := by rw [leB_snoc, ← HP.out, HX.out]
      have e3 : (leB n (k + 1)).length = P.length + 1 := by rw [e2]; simp
      refine ⟨⟨k + 1, x / 256, leB n (k + 1), a4, c4, by simp, by rw [e3], by first | rfl | simp, by omega, by omega, ?_, hidOf rfl, ?_, ?_⟩, by simp [intOf]; omega⟩
      · show _ = _
        rw [HX.out, Nat.div_div_eq_div_mul, Nat.pow_succ]
      · show World.ownsRow _ _ _ _ _ _ _
        rw [e3, e2, bc_app]
        have h4 := HO4.out
        rw [Hby.out] at h4
        exact h4
      · exact out_row (HOu.out.alloc _) (World.ownsRow.alloc HO.out _) Hg4.out
    · have hklt : ¬ (k : Int) < wd := by omega
      obtain rfl : k = wd := by omega
      have hPl : P.length = k := by rw [HP.out, leB_len]
      go_wp2
      go_ret
      have h := HO.out
      rw [HP.out] at h
      rw [leB_len] at h
      exact ⟨a, c, rfl, h, HOu.out⟩
end Go.Proofs.Ytoobdcjkhphlcaa
