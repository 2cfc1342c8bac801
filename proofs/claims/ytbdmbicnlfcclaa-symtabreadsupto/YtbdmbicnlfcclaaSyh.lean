import Derived.Test.YtbdmbicnlfcclaaSyg
namespace Go.Proofs.Ytbdmbicnlfcclaa
open Go.RowKit
set_option linter.unusedVariables false
set_option linter.unusedSimpArgs false
/-- the sort of a symbol that may be; else 0 -/
def soP (s : Sy) : Nat := if 0 ≤ s.bi ∧ s.bi < 16 ∧ 0 ≤ s.ki ∧ s.ki < 16 ∧ 0 ≤ s.na ∧ s.na ≤ 4294967295 ∧ ffP (fifP (16 * s.bi + s.ki)) s = none then fifP (16 * s.bi + s.ki) else 0
theorem fif_lt (n : Int) : fifP n ≤ 4 := by
  unfold fifP
  split
  · omega
  · split
    · omega
    · split
      · omega
      · split <;> omega
theorem fault_any (k : Nat) (hk : 1 ≤ k ∧ k ≤ 4) (na bi ki se va si : Int) (w : World) : Calls Try.prog 46 #[kv k, .agg #[.int .i64 na, .int .i64 bi, .int .i64 ki, .int .i64 se, .int .i64 va, .int .i64 si]] w fun e w' => e = .returned (.tuple #[.int .i64 ((ffP k ⟨na, bi, ki, se, va, si⟩).getD 0 : Nat), .bool (ffP k ⟨na, bi, ki, se, va, si⟩).isSome]) ∧ Out w w' := by
  match k, hk with
  | 1, _ => exact fault1 na bi ki se va si w
  | 2, _ => exact fault2 na bi ki se va si w
  | 3, _ => exact fault3 na bi ki se va si w
  | 4, _ => exact fault4 na bi ki se va si w
def SoEnd (o : Nat) (w : World) (e : Ending) (w' : World) : Prop := (∃ k, e = .returned (.tuple #[kv k, .bool (decide (0 < o))]) ∧ k ≤ 4 ∧ (0 < o → k = o)) ∧ Out w w'
set_option maxRecDepth 8000 in
set_option maxHeartbeats 2000000 in
theorem sortOfSymbol_any (na bi ki se va si : Int) (w : World) : Calls Try.prog 31 #[.agg #[.int .i64 na, .int .i64 bi, .int .i64 ki, .int .i64 se, .int .i64 va, .int .i64 si]] w fun e w' => SoEnd (soP ⟨na, bi, ki, se, va, si⟩) w e w' := by
  obtain ⟨W, hW⟩ : ∃ W, W = w.alloc (.cells #[.int .i64 na, .int .i64 bi, .int .i64 ki, .int .i64 se, .int .i64 va, .int .i64 si] 57) := ⟨_, rfl⟩
  have HX : Hid (W.heap[w.heap.size]? = some (.cells #[.int .i64 na, .int .i64 bi, .int .i64 ki, .int .i64 se, .int .i64 va, .int .i64 si] 57 (0, 0))) := hidOf (by rw [hW]; exact heap_alloc_new w _)
  have OW : Hid (Out w W) := hidOf (by rw [hW]; exact (Out.refl w).alloc _)
  have HK : Hid (∀ wx, Out W wx → wx.cell? ⟨w.heap.size, 0, none⟩ = some (.int .i64 na) ∧ wx.cell? ⟨w.heap.size, 1, none⟩ = some (.int .i64 bi) ∧ wx.cell? ⟨w.heap.size, 2, none⟩ = some (.int .i64 ki) ∧ wx.cell? ⟨w.heap.size, 3, none⟩ = some (.int .i64 se) ∧ wx.cell? ⟨w.heap.size, 4, none⟩ = some (.int .i64 va) ∧ wx.cell? ⟨w.heap.size, 5, none⟩ = some (.int .i64 si)) := fun wx o => by
    have h := (o.block _ (Array.getElem?_eq_some_iff.1 HX.out).1).trans HX.out
    exact ⟨box_cell h 0, box_cell h 1, box_cell h 2, box_cell h 3, box_cell h 4, box_cell h 5⟩
  obtain ⟨c0, c1, c2, c3, c4, c5⟩ := HK.out W (Out.refl W)
  obtain ⟨s, hs⟩ : ∃ s : Sy, s = ⟨na, bi, ki, se, va, si⟩ := ⟨_, rfl⟩
  rw [← hs]
  by_cases hB : 0 ≤ bi ∧ bi < 16
  · have hb1 : bi / 16 = 0 := by omega
    by_cases hKi : 0 ≤ ki ∧ ki < 16
    · have hk1 : ki / 16 = 0 := by omega
      by_cases hN0 : na < 0
      · have h0 : soP s = 0 := by rw [hs, soP, if_neg (by simp only; omega)]
        rw [h0]
        clear hB hKi
        go_enter Try.func31, Try.ntmps31
        go_upto_region 1 with fail
        rw [← hW]
        clear hW
        go_wp2
        go_ret2
        exact ⟨⟨0, rfl, by omega, by omega⟩, OW.out⟩
      · by_cases hN1 : 4294967295 < na
        · have h0 : soP s = 0 := by rw [hs, soP, if_neg (by simp only; omega)]
          rw [h0]
          clear hB hKi
          go_enter Try.func31, Try.ntmps31
          go_upto_region 1 with fail
          rw [← hW]
          clear hW
          go_wp2
          go_ret2
          exact ⟨⟨0, rfl, by omega, by omega⟩, OW.out⟩
        · have CB := hidOf (fun wx => sortByte_any na bi ki se va si wx hB hKi)
          have CS := hidOf (fun wx => sortOf_any (16 * bi + ki) wx)
          have hk4 := fif_lt (16 * bi + ki)
          have hso : soP s = if ffP (fifP (16 * bi + ki)) s = none then fifP (16 * bi + ki) else 0 := by
            subst hs
            unfold soP
            by_cases hf : ffP (fifP (16 * bi + ki)) ⟨na, bi, ki, se, va, si⟩ = none
            · rw [if_pos hf, if_pos (by simp only; exact ⟨hB.1, hB.2, hKi.1, hKi.2, by omega, by omega, hf⟩)]
            · rw [if_neg hf, if_neg (by simp only; rintro ⟨_, _, _, _, _, _, h⟩; exact hf h)]
          generalize hkk : fifP (16 * bi + ki) = k at *
          have hn5 : ¬ (16 * bi + ki > 1000) := by omega
          generalize 16 * bi + ki = nn at *
          by_cases hk0 : k = 0
          · subst hk0
            have h0 : soP s = 0 := by rw [hso]; split <;> rfl
            rw [h0]
            have hd : decide (0 < 0) = false := rfl
            clear hB hKi hkk hso
            go_enter Try.func31, Try.ntmps31
            go_upto_region 1 with fail
            rw [← hW]
            clear hW
            go_wp2_with (first | (go_at_call 45; refine (CB.out _).mono ?_; rintro e w1 ⟨rfl, hO⟩; have HO1 := hidOf (OW.out.trans hO); clear hO) | (go_at_call 44; refine (CS.out _).mono ?_; rintro e w2 ⟨rfl, hw⟩; have hw := hw.symm; subst hw))
            go_ret2
            exact ⟨⟨0, rfl, by omega, by omega⟩, HO1.out⟩
          · have CF := hidOf (fun wx => fault_any k (by omega) na bi ki se va si wx)
            rw [← hs] at CF
            have hd : decide (0 < k) = true := decide_eq_true (by omega)
            rw [hd] at CS
            cases hf : ffP k s with
            | some x =>
              have h0 : soP s = 0 := by rw [hso, hf]; rfl
              rw [h0]
              rw [hf] at CF
              clear hB hKi hkk hso hf hs
              go_enter Try.func31, Try.ntmps31
              go_upto_region 1 with fail
              rw [← hW]
              clear hW
              go_upto_region 6 with (first | (go_at_call 45; refine (CB.out _).mono ?_; rintro e w1 ⟨rfl, hO⟩; have HO1 := hidOf hO; clear hO) | (go_at_call 44; refine (CS.out _).mono ?_; rintro e w2 ⟨rfl, hw⟩; have hw := hw.symm; subst hw))
              clear c0 c1 c2 c3 c4 c5
              obtain ⟨c0, c1, c2, c3, c4, c5⟩ := HK.out _ HO1.out
              go_wp2_with (first | (go_at_call 46; refine (CF.out _).mono ?_; rintro e w3 ⟨rfl, hO⟩; have HO3 := hidOf (HO1.out.trans hO); clear hO))
              go_ret2
              exact ⟨⟨k, rfl, hk4, by omega⟩, OW.out.trans HO3.out⟩
            | none =>
              have h0 : soP s = k := by rw [hso, hf]; rfl
              rw [h0]
              rw [hf] at CF
              clear hB hKi hkk hso hf hs
              go_enter Try.func31, Try.ntmps31
              go_upto_region 1 with fail
              rw [← hW]
              clear hW
              go_upto_region 6 with (first | (go_at_call 45; refine (CB.out _).mono ?_; rintro e w1 ⟨rfl, hO⟩; have HO1 := hidOf hO; clear hO) | (go_at_call 44; refine (CS.out _).mono ?_; rintro e w2 ⟨rfl, hw⟩; have hw := hw.symm; subst hw))
              clear c0 c1 c2 c3 c4 c5
              obtain ⟨c0, c1, c2, c3, c4, c5⟩ := HK.out _ HO1.out
              go_wp2_with (first | (go_at_call 46; refine (CF.out _).mono ?_; rintro e w3 ⟨rfl, hO⟩; have HO3 := hidOf (HO1.out.trans hO); clear hO))
              go_ret2
              exact ⟨⟨k, by rw [hd]; rfl, hk4, fun _ => rfl⟩, OW.out.trans HO3.out⟩
    · have h0 : soP s = 0 := by rw [hs, soP, if_neg (by simp only; omega)]
      rw [h0]
      have hk1 : ¬ ki / 16 = 0 := by omega
      clear hB hKi
      go_enter Try.func31, Try.ntmps31
      go_upto_region 1 with fail
      rw [← hW]
      clear hW
      go_wp2
      go_ret2
      exact ⟨⟨0, rfl, by omega, by omega⟩, OW.out⟩
  · have h0 : soP s = 0 := by rw [hs, soP, if_neg (by simp only; omega)]
    rw [h0]
    have hb1 : ¬ bi / 16 = 0 := by omega
    clear hB
    go_enter Try.func31, Try.ntmps31
    go_upto_region 1 with fail
    rw [← hW]
    clear hW
    go_wp2
    go_ret2
    exact ⟨⟨0, rfl, by omega, by omega⟩, OW.out⟩
end Go.Proofs.Ytbdmbicnlfcclaa
