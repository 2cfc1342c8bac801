import Derived.Test.YtbdmbicnlfcclaaSwb
namespace Go.Proofs.Ytbdmbicnlfcclaa
open Go.RowKit
set_option linter.unusedVariables false
set_option linter.unusedSimpArgs false
set_option maxRecDepth 8000 in
set_option maxHeartbeats 1000000 in
theorem refNumber_any (N : Nat) (w : World) (ba : Option Addr) (bc : Nat) (O R : List UInt8) (n wd : Nat) (hR : R = O ++ leB n wd) (hb : OwB N (.slice ba O.length bc) O w) (hN : N ≤ w.heap.size) (hw : wd ≤ 8) (hl : O.length + wd ≤ 140737488355328) (hn : n ≤ 9223372036854775807) :
    Calls Try.prog 39 #[.slice ba O.length bc, .int .i64 (n : Int), .int .i64 (wd : Int)] w fun e w' => ∃ a c, e = .returned (.slice a R.length c) ∧ OwB N (.slice a R.length c) R w' ∧ Below N w w' ∧ Keep w w' := by
  have HR := hidOf hR
  clear hR
  obtain ⟨i0, hi, hz0, hz1, hz2⟩ := info_parts infoB
  have HB := hidOf hb
  clear hb
  go_enter Try.func39, Try.ntmps39
  go_wp2
  go_loopw [7, 0, 1] (fun kv bv xv wr => ∃ (k x : Nat) (P : List UInt8) (a : Option Addr) (c : Nat), kv = .int .i64 k ∧ bv = .slice a P.length c ∧ xv = .int .i64 (x : Int) ∧ k ≤ wd ∧ x ≤ 9223372036854775807 ∧ Hid (x = n / 256 ^ k) ∧ Hid (P = O ++ leB n k) ∧ Hid (OwB N (.slice a P.length c) P wr) ∧ Hid (Below N w wr) ∧ Hid (Keep w wr)) (fun kv _ _ _ => wd - (intOf kv).toNat)
  case atStart => exact ⟨0, n, O, ba, bc, rfl, rfl, rfl, by omega, hn, hidOf (by simp), hidOf (by simp [leB]), HB.out, Below.refl _ _, Keep.refl _⟩
  case round =>
    obtain ⟨k, x, P, a, c, rfl, rfl, rfl, hk, hxl, HX, HP, HO, Hbel, HKp⟩ := hrel
    by_cases hkw : k < wd
    · have hklt : (k : Int) < wd := by omega
      have hk0 : (0 : Int) ≤ k := by omega
      have hx0 : (0 : Int) ≤ x := by omega
      have hPl : P.length + 1 ≤ 140737488355328 := by rw [HP.out, List.length_append, leB_len]; omega
      have Hby : Hid ((x : Int) % 256 = ((UInt8.ofNat (x % 256)).toNat : Int)) := hidOf (by rw [UInt8.toNat_ofNat_of_lt' (by simp [UInt8.size]; omega)]; omega)
      have hNk : N ≤ wr.heap.size := Nat.le_trans hN Hbel.out.size
      go_wp2_with (at_builtin; refine wpList_append_own _ rfl (.tmp 13) (.tmp 17) 37 rfl N 5 i0 _ 1 1 Try.underlying37 hi hz0 hz1 hz2 rfl (by decide) (.slice a P.length c) P.length (Lib.byteCells P) rfl (World.ownsRow.alloc HO.out _) ⟨wr.heap.size, 0, none⟩ 1 1 [.int .u8 ((x : Int) % 256)] rfl rfl (news_new wr _ _ _ rfl) (fun u hu => by rw [List.mem_singleton.1 hu]; rfl) (by unfold maxLen; omega) (by omega) (by rw [size_alloc]; omega) ?_; intro v4 w4 hown4 hgrow4 _; have HO4 := hidOf hown4; have Hg4 := hidOf hgrow4; clear hgrow4; obtain ⟨a4, c4, rfl⟩ := own_form hown4; clear hown4)
      have e2 : O ++ leB n (k + 1) = P ++ [UInt8.ofNat (x % 256)] := by rw [leB_snoc, ← List.append_assoc, ← HP.out, HX.out]
      have e3 : (O ++ leB n (k + 1)).length = P.length + 1 := by rw [e2]; simp
      refine ⟨⟨k + 1, x / 256, O ++ leB n (k + 1), a4, c4, by simp, by rw [e3], by first | rfl | simp, by omega, by omega, ?_, hidOf rfl, ?_, ?_, ?_⟩, by simp [intOf]; omega⟩
      · show _ = _
        rw [HX.out, Nat.div_div_eq_div_mul, Nat.pow_succ]
      · show World.ownsRow _ _ _ _ _ _ _
        rw [e3, e2, bc_app]
        have h4 := HO4.out
        rw [Hby.out] at h4
        exact h4
      · exact Below.grownB (Hbel.out.alloc hNk _) hN (World.ownsRow.alloc HO.out _) Hg4.out
      · exact (HKp.out.trans (Keep.of_out ((Out.refl wr).alloc _))).trans (Keep.grown (World.ownsRow.alloc HO.out _) Hg4.out)
    · have hklt : ¬ (k : Int) < wd := by omega
      obtain rfl : k = wd := by omega
      go_wp2
      go_ret
      have e : R = P := HR.out.trans HP.out.symm
      rw [e]
      exact ⟨a, c, rfl, HO.out, Hbel.out, HKp.out⟩
/-- what stands ahead, by the reference's own words: the one ahead, and so many tables -/
def Sim (o : Option Sy) (q : Rn) (t : Nat) : Prop := match o with
  | none => q = ⟨0, 0, 0⟩ ∧ t = 0
  | some y => 1 ≤ soP y ∧ q.r = soP y ∧ q.v = y.va ∧ 1 ≤ q.c ∧ (soP y = 2 → q.c = t) ∧ (soP y = 1 → t = 0)
theorem Sim.step {o : Option Sy} {q : Rn} {t : Nat} {x : Sy} (h : Sim o q t) (hx : 1 ≤ soP x) : (folP o x t = false → tkS q (soP x) x.va = none) ∧ (folP o x t = true → ∃ q', tkS q (soP x) x.va = some q' ∧ Sim (some x) q' (if soP x = 2 then t + 1 else t)) := by
  have h4 := so_le x
  obtain ⟨na, bi, ki, se, va, si⟩ := x
  unfold folP Sim at *
  simp only at *
  generalize soP ⟨na, bi, ki, se, va, si⟩ = sx at *
  have hsx : sx = 1 ∨ sx = 2 ∨ sx = 3 ∨ sx = 4 := by omega
  cases o with
  | none =>
    obtain ⟨rfl, rfl⟩ := h
    simp only
    rcases hsx with rfl | rfl | rfl | rfl
    all_goals
      simp [tkS, upS, foP]
    all_goals
      by_cases hv : va = 0
      · simp [hv]
      · simp [hv]
  | some y =>
    obtain ⟨yna, ybi, yki, yse, yva, ysi⟩ := y
    simp only at *
    have h4y := so_le ⟨yna, ybi, yki, yse, yva, ysi⟩
    generalize soP ⟨yna, ybi, yki, yse, yva, ysi⟩ = sy at *
    obtain ⟨qr, qc, qv⟩ := q
    simp only at h
    obtain ⟨h1, rfl, rfl, hc, ht2, ht1⟩ := h
    have hsy : sy = 1 ∨ sy = 2 ∨ sy = 3 ∨ sy = 4 := by omega
    have hqc : ¬ qc = 0 := by omega
    rcases hsx with rfl | rfl | rfl | rfl <;> rcases hsy with rfl | rfl | rfl | rfl
    all_goals
      simp [tkS, upS, foP, hqc]
    all_goals
      first
        | omega
        | (by_cases hv : va = 16 * (t : Int) <;> by_cases hq : qv < va <;> simp_all <;> omega)
        | (by_cases hv : va = 16 * (t : Int) <;> simp_all <;> omega)
        | (by_cases hq : qv < va <;> simp_all <;> omega)
        | skip
end Go.Proofs.Ytbdmbicnlfcclaa
