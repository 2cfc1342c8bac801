import Derived.Test.YtbdmbicnlfcclaaSwa
namespace Go.Proofs.Ytbdmbicnlfcclaa
open Go.RowKit
set_option linter.unusedVariables false
set_option linter.unusedSimpArgs false
/-- the reference's own words: in order behind the one ahead -/
def folP (o : Option Sy) (x : Sy) (t : Int) : Bool := if soP x = 2 ∧ ¬ x.va = 16 * t then false else match o with
  | none => true
  | some y => decide (soP y < soP x) || (decide (soP y = soP x) && (decide (soP x = 2) || (decide (soP x = 4) || decide (y.va < x.va))))
def prv (L : List Sy) (k : Nat) : Option Sy := match k with
  | 0 => none
  | j + 1 => L[j]?
theorem so_le (s : Sy) : soP s ≤ 4 := by
  by_cases h : 0 < soP s
  · exact (so_facts h).2.1
  · omega
set_option maxRecDepth 8000 in
set_option maxHeartbeats 4000000 in
theorem follows_any (w : World) (a : Option Addr) (c : Nat) (L : List Sy) (h : SyAt w.heap.size w a L) (hc : L.length ≤ c) (k : Nat) (x : Sy) (hx : L[k]? = some x) (t : Nat) (ht : t ≤ 10000000000000) (hl : L.length ≤ 10000000000000) :
    Calls Try.prog 38 #[.slice a L.length c, .int .i64 k, .int .i64 t] w fun e w' => e = .returned (.bool (folP (prv L k) x t)) ∧ Out w w' := by
  have hkl := (List.getElem?_eq_some_iff.1 hx).1
  have hkI : (k : Int) < L.length := by omega
  have hk0 : (0 : Int) ≤ k := by omega
  have hcI : (L.length : Int) ≤ c := by omega
  obtain ⟨b, off, rfl, hb, hX⟩ := h.get hx
  obtain ⟨na, bi, ki, se, va, si⟩ := x
  have HXk : Hid (∀ wx, Out w wx → Cells6 wx b (off + k * 6) ⟨na, bi, ki, se, va, si⟩) := fun wx o => hX.later o
  have CX : Hid (∀ wx, Calls Try.prog 37 #[.agg #[.int .i64 na, .int .i64 bi, .int .i64 ki, .int .i64 se, .int .i64 va, .int .i64 si]] wx fun e w' => e = .returned (.int .i64 (soP ⟨na, bi, ki, se, va, si⟩ : Nat)) ∧ Out wx w') := fun wx => refSort_any na bi ki se va si wx
  obtain ⟨q0, q1, q2, q3, q4, q5⟩ := hX
  simp only at q0 q1 q2 q3 q4 q5
  obtain ⟨R, hR⟩ : ∃ R, R = folP (prv L k) ⟨na, bi, ki, se, va, si⟩ t := ⟨_, rfl⟩
  rw [← hR]
  unfold folP at hR
  have hsx := so_le ⟨na, bi, ki, se, va, si⟩
  generalize soP ⟨na, bi, ki, se, va, si⟩ = sx at *
  have HR := hidOf hR
  clear hR
  have HH := hidOf h
  clear h
  simp only at HR
  have hsI : (0 : Int) ≤ sx := by omega
  have hwt : IntKind.i64.wrap (16 * (t : Int)) = 16 * t := by rw [IntKind.wrap_i64]; omega
  have go_on : (¬ (sx = 2 ∧ ¬ va = 16 * (t : Int))) ∨ (sx = 2 ∧ ¬ va = 16 * (t : Int)) := by omega
  rcases go_on with hgo | ⟨h2, hva⟩
  · have hR := HR.out
    clear HR
    rw [if_neg hgo] at hR
    have HR := hidOf hR
    clear hR
    have B2 : ((sx : Int) == 2) = false ∨ (((sx : Int) == 2) = true ∧ (va != 16 * (t : Int)) = false) := by
      by_cases h2 : sx = 2
      · right; subst h2; exact ⟨rfl, by simp; omega⟩
      · left; simp; omega
    cases k with
    | zero =>
      have hR := HR.out
      clear HR
      simp only [prv] at hR
      subst hR
      simp only [Nat.zero_mul, Nat.add_zero] at *
      rcases B2 with B2 | ⟨B2, B3⟩
      all_goals
        go_enter Try.func38, Try.ntmps38
        go_upto_region 2 with (go_at_call 37; refine (CX.out _).mono ?_; rintro e w1 ⟨rfl, ho⟩; have O1 := hidOf ho; have r4 := cell_later ho q4; clear ho)
        go_wp2
        go_ret
        exact ⟨rfl, O1.out⟩
    | succ j =>
      obtain ⟨y, hy⟩ : ∃ y, L[j]? = some y := ⟨_, List.getElem?_eq_getElem (by omega)⟩
      have hY := HH.out.get hy
      obtain ⟨b', off', hbo, _, hY⟩ := hY
      simp only [Option.some.injEq, Addr.mk.injEq] at hbo
      obtain ⟨rfl, rfl, _⟩ := hbo
      obtain ⟨yna, ybi, yki, yse, yva, ysi⟩ := y
      have HYk : Hid (∀ wx, Out w wx → Cells6 wx b (off + j * 6) ⟨yna, ybi, yki, yse, yva, ysi⟩) := fun wx o => hY.later o
      have CY : Hid (∀ wx, Calls Try.prog 37 #[.agg #[.int .i64 yna, .int .i64 ybi, .int .i64 yki, .int .i64 yse, .int .i64 yva, .int .i64 ysi]] wx fun e w' => e = .returned (.int .i64 (soP ⟨yna, ybi, yki, yse, yva, ysi⟩ : Nat)) ∧ Out wx w') := fun wx => refSort_any yna ybi yki yse yva ysi wx
      have hR := HR.out
      clear HR
      simp only [prv, hy] at hR
      have hsy := so_le ⟨yna, ybi, yki, yse, yva, ysi⟩
      generalize soP ⟨yna, ybi, yki, yse, yva, ysi⟩ = sy at *
      have HR := hidOf hR
      clear hR hY hy HH
      have hk1 : ((j + 1 : Nat) : Int) - 1 = j := by omega
      have hj0 : (0 : Int) ≤ j := by omega
      have hjl : (j : Int) < L.length := by omega
      have hkn : (((j + 1 : Nat) : Int) == 0) = false := by simp; omega
      generalize j + 1 = K at *
      have h5 : (sy < sx ∧ R = true) ∨ (sx < sy ∧ R = false) ∨ (sy = sx ∧ (sx = 2 ∧ R = true)) ∨ (sy = sx ∧ (¬ sx = 2 ∧ sx = 4 ∧ R = true)) ∨ (sy = sx ∧ (¬ sx = 2 ∧ ¬ sx = 4 ∧ R = decide (yva < va))) := by
        have hR := HR.out
        rcases Nat.lt_trichotomy sy sx with hlt | heq | hgt
        · left; exact ⟨hlt, by rw [hR]; simp [hlt]⟩
        · subst heq
          by_cases e2 : sy = 2
          · right; right; left; exact ⟨rfl, e2, by rw [hR]; simp [e2]⟩
          · by_cases e4 : sy = 4
            · right; right; right; left; exact ⟨rfl, e2, e4, by rw [hR]; simp [e4]⟩
            · right; right; right; right; exact ⟨rfl, e2, e4, by rw [hR]; simp [e2, e4]⟩
        · right; left; exact ⟨hgt, by rw [hR]; simp; omega⟩
      clear HR hgo
      rcases B2 with B2 | ⟨B2, B3⟩
      all_goals
        go_enter Try.func38, Try.ntmps38
        go_upto_region 2 with (go_at_call 37; refine (CX.out _).mono ?_; rintro e w1 ⟨rfl, ho⟩; have O1 := hidOf ho; have r4 := cell_later ho q4; clear ho)
        obtain ⟨y0, y1, y2, y3, y4, y5⟩ := HYk.out w1 O1.out
        simp only at y0 y1 y2 y3 y4 y5
        clear q0 q1 q2 q3 q4 q5
        go_upto_region 7 with (go_at_call 37; refine (CY.out _).mono ?_; rintro e w2 ⟨rfl, ho⟩; have O2 := hidOf (Out.trans O1.out ho); have s4 := cell_later ho r4; have z4 := cell_later ho y4; clear ho)
        clear r4 y0 y1 y2 y3 y4 y5 CX CY HXk HYk B2
        first | clear B3 | skip
        rcases h5 with ⟨h, rfl⟩ | ⟨h, rfl⟩ | ⟨rfl, rfl, rfl⟩ | ⟨rfl, h2, rfl, rfl⟩ | ⟨rfl, h2, h4, rfl⟩
        · have g1 : (sy : Int) < sx := by omega
          have g2 : decide ((sy : Int) < sx) = true := by simp; omega
          have g3 : decide (sy < sx) = true := by simp [h]
          go_quiet (fail)
          all_goals
            go_wp2
            go_ret
            exact ⟨rfl, O2.out.drewN _⟩
        · have g1 : ¬ (sy : Int) < sx := by omega
          have g2 : decide ((sy : Int) < sx) = false := by simp; omega
          have g3 : decide (sy < sx) = false := by simp; omega
          have g4 : ((sy : Int) == sx) = false := by simp; omega
          have g5 : (sy == sx) = false := by simp; omega
          go_quiet (fail)
          all_goals
            go_wp2
            go_ret
            exact ⟨rfl, O2.out.drewN _⟩
        · go_quiet (fail)
          all_goals
            go_wp2
            go_ret
            exact ⟨rfl, O2.out.drewN _⟩
        · go_quiet (fail)
          all_goals
            go_wp2
            go_ret
            exact ⟨rfl, O2.out.drewN _⟩
        · have g1 : ¬ (sy : Int) < sy := by omega
          have g2 : decide ((sy : Int) < sy) = false := by simp
          have g3 : decide (sy < sy) = false := by simp
          have g4 : ((sy : Int) == 2) = false := by simp; omega
          have g5 : ((sy : Int) == 4) = false := by simp; omega
          have g6 : (sy == 2) = false := by simp; omega
          have g7 : (sy == 4) = false := by simp; omega
          go_quiet (fail)
          all_goals
            go_wp2
            go_ret
            exact ⟨rfl, O2.out.drewN _⟩
  · have hR := HR.out
    clear HR
    rw [if_pos ⟨h2, hva⟩] at hR
    subst hR
    subst h2
    have B3 : (va != 16 * (t : Int)) = true := by simp; omega
    go_enter Try.func38, Try.ntmps38
    go_upto_region 2 with (go_at_call 37; refine (CX.out _).mono ?_; rintro e w1 ⟨rfl, ho⟩; have O1 := hidOf ho; have r4 := cell_later ho q4; clear ho)
    clear hva
    go_wp2
    go_ret
    exact ⟨rfl, O1.out⟩
end Go.Proofs.Ytbdmbicnlfcclaa
