import Derived.Test.YtbdmbicnlfcclaaSyj
import Derived.Deep.DeepCutAuto
namespace Go.Proofs.Ytbdmbicnlfcclaa
open Go.RowKit
set_option linter.unusedVariables false
set_option linter.unusedSimpArgs false
/-- the reference's own words: a function -/
def fnP (ki se va si : Int) : Bool := (ki == 2) && ((se == 1) && (decide (0 ≤ va) && ((va % 8 == 0) && (decide (0 < si) && (si % 8 == 0)))))
def tbP (ki se va si : Int) : Bool := (ki == 1) && ((se == 2) && (decide (0 ≤ va) && ((va % 16 == 0) && (si == 16))))
def exP (ki se va si : Int) : Bool := (ki == 0) && ((se == 0) && ((va == 0) && (si == 0)))
def soR (na bi ki se va si : Int) : Nat := if na < 0 ∨ 4294967295 < na then 0 else if bi = 0 then (if fnP ki se va si then 1 else if tbP ki se va si then 2 else 0) else if bi = 1 then (if fnP ki se va si then 3 else if exP ki se va si then 4 else 0) else 0
theorem fif_bi0 (ki : Int) (h0 : 0 ≤ ki) (h1 : ki < 16) : fifP (16 * 0 + ki) = if ki = 2 then 1 else if ki = 1 then 2 else 0 := by
  unfold fifP
  by_cases a : ki = 2
  · subst a; rfl
  by_cases b : ki = 1
  · subst b; rfl
  rw [if_neg (by omega), if_neg (by omega), if_neg (by omega), if_neg (by omega), if_neg a, if_neg b]
theorem fif_bi1 (ki : Int) (h0 : 0 ≤ ki) (h1 : ki < 16) : fifP (16 * 1 + ki) = if ki = 2 then 3 else if ki = 0 then 4 else 0 := by
  unfold fifP
  by_cases a : ki = 2
  · subst a; rfl
  by_cases b : ki = 0
  · subst b; rfl
  rw [if_neg (by omega), if_neg (by omega), if_neg (by omega), if_neg (by omega), if_neg a, if_neg b]
theorem fif_bi (bi ki : Int) (hb : ¬ bi = 0) (hb1 : ¬ bi = 1) (h0 : 0 ≤ ki) (h1 : ki < 16) : fifP (16 * bi + ki) = 0 := by
  unfold fifP
  rw [if_neg (by omega), if_neg (by omega), if_neg (by omega), if_neg (by omega)]
theorem ff1 (na bi ki se va si : Int) (k : Nat) (hk : k = 1 ∨ k = 3) : (ffP k ⟨na, bi, ki, se, va, si⟩ = none) ↔ fnP 2 se va si = true := by
  rcases hk with rfl | rfl
  all_goals
    unfold ffP fnP
    simp only [seP, vaP, siP]
    by_cases a : se = 1
    · subst a
      cases h1 : decide (0 ≤ va) <;> cases h2 : (va % 8 == 0) <;> cases h3 : decide (0 < si) <;> cases h4 : (si % 8 == 0) <;> simp
    · simp [a]
theorem ff2 (na bi ki se va si : Int) : (ffP 2 ⟨na, bi, ki, se, va, si⟩ = none) ↔ tbP 1 se va si = true := by
  unfold ffP tbP
  simp only [seP, vaP, siP]
  by_cases a : se = 2
  · subst a
    cases h1 : decide (0 ≤ va) <;> cases h2 : (va % 16 == 0) <;> cases h3 : (si == 16) <;> simp
  · simp [a]
theorem ff4 (na bi ki se va si : Int) : (ffP 4 ⟨na, bi, ki, se, va, si⟩ = none) ↔ exP 0 se va si = true := by
  unfold ffP exP
  simp only [seP, vaP, siP]
  by_cases a : se = 0
  · subst a
    cases h1 : (va == 0) <;> cases h2 : (si == 0) <;> simp
  · simp [a]
theorem fn_ki {ki se va si : Int} (h : ¬ ki = 2) : fnP ki se va si = false := by simp [fnP, h]
theorem tb_ki {ki se va si : Int} (h : ¬ ki = 1) : tbP ki se va si = false := by simp [tbP, h]
theorem ex_ki {ki se va si : Int} (h : ¬ ki = 0) : exP ki se va si = false := by simp [exP, h]
theorem soR_eq (na bi ki se va si : Int) : soR na bi ki se va si = soP ⟨na, bi, ki, se, va, si⟩ := by
  unfold soR soP
  simp only
  by_cases hn : na < 0 ∨ 4294967295 < na
  · rw [if_pos hn, if_neg (by omega)]
  rw [if_neg hn]
  by_cases hki : 0 ≤ ki ∧ ki < 16
  · obtain ⟨k0, k1⟩ := hki
    by_cases hb0 : bi = 0
    · subst hb0
      rw [if_pos rfl, fif_bi0 ki k0 k1]
      by_cases a : ki = 2
      · subst a
        rw [if_pos rfl]
        cases hf : fnP 2 se va si
        · rw [if_neg (by decide), tb_ki (by omega), if_neg (by decide), if_neg (fun h => by have := (ff1 na 0 2 se va si 1 (.inl rfl)).1 h.2.2.2.2.2.2; rw [hf] at this; cases this)]
        · rw [if_pos rfl, if_pos ⟨by omega, by omega, by omega, by omega, by omega, by omega, (ff1 na 0 2 se va si 1 (.inl rfl)).2 hf⟩]
      · rw [if_neg a, fn_ki a, if_neg (by decide)]
        by_cases b : ki = 1
        · subst b
          rw [if_pos rfl]
          cases hf : tbP 1 se va si
          · rw [if_neg (by decide), if_neg (fun h => by have := (ff2 na 0 1 se va si).1 h.2.2.2.2.2.2; rw [hf] at this; cases this)]
          · rw [if_pos rfl, if_pos ⟨by omega, by omega, by omega, by omega, by omega, by omega, (ff2 na 0 1 se va si).2 hf⟩]
        · rw [if_neg b, tb_ki b, if_neg (by decide)]
          split <;> rfl
    · rw [if_neg hb0]
      by_cases hb1 : bi = 1
      · subst hb1
        rw [if_pos rfl, fif_bi1 ki k0 k1]
        by_cases a : ki = 2
        · subst a
          rw [if_pos rfl]
          cases hf : fnP 2 se va si
          · rw [if_neg (by decide), ex_ki (by omega), if_neg (by decide), if_neg (fun h => by have := (ff1 na 1 2 se va si 3 (.inr rfl)).1 h.2.2.2.2.2.2; rw [hf] at this; cases this)]
          · rw [if_pos rfl, if_pos ⟨by omega, by omega, by omega, by omega, by omega, by omega, (ff1 na 1 2 se va si 3 (.inr rfl)).2 hf⟩]
        · rw [if_neg a, fn_ki a, if_neg (by decide)]
          by_cases b : ki = 0
          · subst b
            rw [if_pos rfl]
            cases hf : exP 0 se va si
            · rw [if_neg (by decide), if_neg (fun h => by have := (ff4 na 1 0 se va si).1 h.2.2.2.2.2.2; rw [hf] at this; cases this)]
            · rw [if_pos rfl, if_pos ⟨by omega, by omega, by omega, by omega, by omega, by omega, (ff4 na 1 0 se va si).2 hf⟩]
          · rw [if_neg b, ex_ki b, if_neg (by decide)]
            split <;> rfl
      · rw [if_neg hb1, fif_bi bi ki hb0 hb1 k0 k1]
        split <;> rfl
  · have e1 : ¬ ki = 2 := by omega
    have e2 : ¬ ki = 1 := by omega
    have e3 : ¬ ki = 0 := by omega
    have hz : ¬ (0 ≤ bi ∧ bi < 16 ∧ 0 ≤ ki ∧ ki < 16 ∧ 0 ≤ na ∧ na ≤ 4294967295 ∧ ffP (fifP (16 * bi + ki)) ⟨na, bi, ki, se, va, si⟩ = none) := fun h => hki ⟨h.2.2.1, h.2.2.2.1⟩
    rw [fn_ki e1, tb_ki e2, ex_ki e3, if_neg hz]
    simp
set_option maxRecDepth 8000 in
set_option maxHeartbeats 4000000 in
theorem refSort_any (na bi ki se va si : Int) (w : World) : Calls Try.prog 37 #[.agg #[.int .i64 na, .int .i64 bi, .int .i64 ki, .int .i64 se, .int .i64 va, .int .i64 si]] w fun e w' => e = .returned (.int .i64 (soP ⟨na, bi, ki, se, va, si⟩ : Nat)) ∧ Out w w' := by
  rw [← soR_eq]
  obtain ⟨W, hW⟩ : ∃ W, W = w.alloc (.cells #[.int .i64 na, .int .i64 bi, .int .i64 ki, .int .i64 se, .int .i64 va, .int .i64 si] 57) := ⟨_, rfl⟩
  have HX : W.heap[w.heap.size]? = some (.cells #[.int .i64 na, .int .i64 bi, .int .i64 ki, .int .i64 se, .int .i64 va, .int .i64 si] 57 (0, 0)) := by rw [hW]; exact heap_alloc_new w _
  have OW : Hid (Out w W) := hidOf (by rw [hW]; exact (Out.refl w).alloc _)
  have q0 : W.cell? ⟨w.heap.size, 0, none⟩ = some (.int .i64 na) := box_cell HX 0
  have q1 : W.cell? ⟨w.heap.size, 1, none⟩ = some (.int .i64 bi) := box_cell HX 1
  have q2 : W.cell? ⟨w.heap.size, 2, none⟩ = some (.int .i64 ki) := box_cell HX 2
  have q3 : W.cell? ⟨w.heap.size, 3, none⟩ = some (.int .i64 se) := box_cell HX 3
  have q4 : W.cell? ⟨w.heap.size, 4, none⟩ = some (.int .i64 va) := box_cell HX 4
  have q5 : W.cell? ⟨w.heap.size, 5, none⟩ = some (.int .i64 si) := box_cell HX 5
  clear HX
  obtain ⟨P, hP⟩ : ∃ P, P = w.heap.size := ⟨_, rfl⟩
  rw [← hP] at q0 q1 q2 q3 q4 q5
  have HP := hidOf hP
  have HW := hidOf hW
  clear hP hW
  obtain ⟨R, hR⟩ : ∃ R, R = soR na bi ki se va si := ⟨_, rfl⟩
  rw [← hR]
  unfold soR at hR
  have HR := hidOf hR
  clear hR
  by_cases hn : na < 0 ∨ 4294967295 < na
  · have hR := HR.out
    rw [if_pos hn] at hR
    subst hR
    by_cases h0 : na < 0
    · go_enter Try.func37, Try.ntmps37
      go_upto_region 1 with fail
      rw [← HW.out, ← HP.out]
      go_wp2
      go_ret
      exact ⟨rfl, OW.out⟩
    · have h1 : 4294967295 < na := by omega
      go_enter Try.func37, Try.ntmps37
      go_upto_region 1 with fail
      rw [← HW.out, ← HP.out]
      go_wp2
      go_ret
      exact ⟨rfl, OW.out⟩
  · have hn0 : ¬ na < 0 := by omega
    have hn1 : ¬ 4294967295 < na := by omega
    have hR := HR.out
    rw [if_neg hn] at hR
    have HR := hidOf hR
    clear hR hn
    go_enter Try.func37, Try.ntmps37
    go_upto_region 1 with fail
    rw [← HW.out, ← HP.out]
    go_upto_region 3 with fail
    clear q0 hn0 hn1
    go_cut [1, 3] (fun s1 s3 wx => s1 = .pointer (some ⟨P, 0, none⟩) ∧ s3 = .bool (fnP ki se va si) ∧ wx = W)
    case first =>
      clear HR
      have h7 : (¬ ki = 2) ∨ (ki = 2 ∧ ¬ se = 1) ∨ (ki = 2 ∧ se = 1 ∧ va < 0) ∨ (ki = 2 ∧ se = 1 ∧ 0 ≤ va ∧ ¬ va % 8 = 0) ∨ (ki = 2 ∧ se = 1 ∧ 0 ≤ va ∧ va % 8 = 0 ∧ si ≤ 0) ∨ (ki = 2 ∧ se = 1 ∧ 0 ≤ va ∧ va % 8 = 0 ∧ 0 < si ∧ ¬ si % 8 = 0) ∨ (ki = 2 ∧ se = 1 ∧ 0 ≤ va ∧ va % 8 = 0 ∧ 0 < si ∧ si % 8 = 0) := by omega
      rcases h7 with h | ⟨rfl, h⟩ | ⟨rfl, rfl, h⟩ | ⟨rfl, rfl, h, h2⟩ | ⟨rfl, rfl, h, h2, h3⟩ | ⟨rfl, rfl, h, h2, h3, h4⟩ | ⟨rfl, rfl, h, h2, h3, h4⟩
      · have b : (ki == 2) = false := by simp [h]
        have e : fnP ki se va si = false := fn_ki h
        go_wp2
        go_meet
        exact ⟨rfl, congrArg Value.bool e.symm, rfl⟩
      · have b : (se == 1) = false := by simp [h]
        have e : fnP 2 se va si = false := by simp [fnP, h]
        go_wp2
        go_meet
        exact ⟨rfl, congrArg Value.bool e.symm, rfl⟩
      · have e : fnP 2 1 va si = false := by simp [fnP]; omega
        have h' : ¬ 0 ≤ va := by omega
        go_wp2
        go_meet
        exact ⟨rfl, congrArg Value.bool e.symm, rfl⟩
      · have b : (va % 8 == 0) = false := by simp [h2]
        have e : fnP 2 1 va si = false := by simp [fnP, h2]
        clear h2
        go_wp2
        go_meet
        exact ⟨rfl, congrArg Value.bool e.symm, rfl⟩
      · have b : (va % 8 == 0) = true := by simp [h2]
        have e : fnP 2 1 va si = false := by simp [fnP]; omega
        have h' : ¬ 0 < si := by omega
        clear h2
        go_wp2
        go_meet
        exact ⟨rfl, congrArg Value.bool e.symm, rfl⟩
      · have b : (va % 8 == 0) = true := by simp [h2]
        have b4 : (si % 8 == 0) = false := by simp [h4]
        have h0 : 0 ≤ si := by omega
        have e : fnP 2 1 va si = false := by simp [fnP, h4]
        clear h2 h4
        go_wp2
        go_meet
        exact ⟨rfl, congrArg Value.bool e.symm, rfl⟩
      · have b : (va % 8 == 0) = true := by simp [h2]
        have b4 : (si % 8 == 0) = true := by simp [h4]
        have h0 : 0 ≤ si := by omega
        have e : fnP 2 1 va si = true := by simp [fnP, h, h2, h3, h4]
        clear h2 h4
        go_wp2
        go_meet
        exact ⟨rfl, congrArg Value.bool e.symm, rfl⟩
    case rest =>
      obtain ⟨rfl, rfl, rfl⟩ := hcut
      have hR := HR.out
      clear HR
      by_cases hb0 : bi = 0
      · subst hb0
        rw [if_pos rfl] at hR
        generalize fnP ki se va si = fn at *
        cases fn with
        | true =>
          rw [if_pos rfl] at hR
          subst hR
          go_wp2
          go_ret
          exact ⟨rfl, OW.out⟩
        | false =>
          rw [if_neg (by decide)] at hR
          have h6 : (¬ ki = 1) ∨ (ki = 1 ∧ ¬ se = 2) ∨ (ki = 1 ∧ se = 2 ∧ va < 0) ∨ (ki = 1 ∧ se = 2 ∧ 0 ≤ va ∧ ¬ va % 16 = 0) ∨ (ki = 1 ∧ se = 2 ∧ 0 ≤ va ∧ va % 16 = 0 ∧ ¬ si = 16) ∨ (ki = 1 ∧ se = 2 ∧ 0 ≤ va ∧ va % 16 = 0 ∧ si = 16) := by omega
          rcases h6 with h | ⟨rfl, h⟩ | ⟨rfl, rfl, h⟩ | ⟨rfl, rfl, h, h2⟩ | ⟨rfl, rfl, h, h2, h3⟩ | ⟨rfl, rfl, h, h2, rfl⟩
          · have b : (ki == 1) = false := by simp [h]
            rw [tb_ki h, if_neg (by decide)] at hR
            subst hR
            go_wp2
            go_ret
            exact ⟨rfl, OW.out⟩
          · have b : (se == 2) = false := by simp [h]
            rw [show tbP 1 se va si = false by simp [tbP, h], if_neg (by decide)] at hR
            subst hR
            go_wp2
            go_ret
            exact ⟨rfl, OW.out⟩
          · have h' : ¬ 0 ≤ va := by omega
            rw [show tbP 1 2 va si = false by simp [tbP]; omega, if_neg (by decide)] at hR
            subst hR
            go_wp2
            go_ret
            exact ⟨rfl, OW.out⟩
          · have b : (va % 16 == 0) = false := by simp [h2]
            rw [show tbP 1 2 va si = false by simp [tbP, h2], if_neg (by decide)] at hR
            subst hR
            clear h2
            go_wp2
            go_ret
            exact ⟨rfl, OW.out⟩
          · have b : (va % 16 == 0) = true := by simp [h2]
            have b3 : (si == 16) = false := by simp [h3]
            rw [show tbP 1 2 va si = false by simp [tbP, h3], if_neg (by decide)] at hR
            subst hR
            clear h2
            go_wp2
            go_ret
            exact ⟨rfl, OW.out⟩
          · have b : (va % 16 == 0) = true := by simp [h2]
            rw [show tbP 1 2 va 16 = true by simp [tbP, h, h2], if_pos rfl] at hR
            subst hR
            clear h2
            go_wp2
            go_ret
            exact ⟨rfl, OW.out⟩
      · have c0 : (bi == 0) = false := by simp [hb0]
        rw [if_neg hb0] at hR
        by_cases hb1 : bi = 1
        · subst hb1
          rw [if_pos rfl] at hR
          generalize fnP ki se va si = fn at *
          cases fn with
          | true =>
            rw [if_pos rfl] at hR
            subst hR
            go_wp2
            go_ret
            exact ⟨rfl, OW.out⟩
          | false =>
            rw [if_neg (by decide)] at hR
            have h6 : (¬ ki = 0) ∨ (ki = 0 ∧ ¬ se = 0) ∨ (ki = 0 ∧ se = 0 ∧ ¬ va = 0) ∨ (ki = 0 ∧ se = 0 ∧ va = 0 ∧ ¬ si = 0) ∨ (ki = 0 ∧ se = 0 ∧ va = 0 ∧ si = 0) := by omega
            rcases h6 with h | ⟨rfl, h⟩ | ⟨rfl, rfl, h⟩ | ⟨rfl, rfl, rfl, h⟩ | ⟨rfl, rfl, rfl, rfl⟩
            · have b : (ki == 0) = false := by simp [h]
              rw [ex_ki h, if_neg (by decide)] at hR
              subst hR
              go_wp2
              go_ret
              exact ⟨rfl, OW.out⟩
            · have b : (se == 0) = false := by simp [h]
              rw [show exP 0 se va si = false by simp [exP, h], if_neg (by decide)] at hR
              subst hR
              go_wp2
              go_ret
              exact ⟨rfl, OW.out⟩
            · have b : (va == 0) = false := by simp [h]
              rw [show exP 0 0 va si = false by simp [exP, h], if_neg (by decide)] at hR
              subst hR
              go_wp2
              go_ret
              exact ⟨rfl, OW.out⟩
            · have b : (si == 0) = false := by simp [h]
              rw [show exP 0 0 0 si = false by simp [exP, h], if_neg (by decide)] at hR
              subst hR
              go_wp2
              go_ret
              exact ⟨rfl, OW.out⟩
            · rw [show exP 0 0 0 0 = true from rfl, if_pos rfl] at hR
              subst hR
              go_wp2
              go_ret
              exact ⟨rfl, OW.out⟩
        · have c1 : (bi == 1) = false := by simp [hb1]
          rw [if_neg hb1] at hR
          subst hR
          generalize fnP ki se va si = fn at *
          go_wp2
          go_ret
          exact ⟨rfl, OW.out⟩
end Go.Proofs.Ytbdmbicnlfcclaa
