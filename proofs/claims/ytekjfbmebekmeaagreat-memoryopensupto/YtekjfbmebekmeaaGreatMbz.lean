import Derived.Test.YtekjfbmebekmeaaGreatMbu
import Derived.Test.YtekjfbmebekmeaaGreatMbx
import Derived.Test.YtekjfbmebekmeaaGreatMqs
namespace Go.Proofs.YtekjfbmebekmeaaGreat
open Go.RowKit
set_option linter.unusedVariables false
set_option linter.unusedSimpArgs false
set_option maxHeartbeats 2000000 in
theorem all_any (w : World) (B s o : Nat) (v : Value) (X : List Rw) (h : Sh B w v X) (hc : w.cell? ⟨s, o, none⟩ = some v) (hX : X.length ≤ 5864062014805) (hN : (flat X).length ≤ 4398046511104) :
    Calls Tryz.prog 70 #[.pointer (some ⟨s, o, none⟩)] w fun e w' => ∃ a' c', e = .returned (.slice a' (flat X).length c') ∧ w'.ownsRow w.heap.size 36 2 (.slice a' (flat X).length c') (flat X).length (rowG (flat X)) ∧ Out w w' := by
  obtain ⟨a, c, rfl, ha, _⟩ := own_slice h.own
  have hcv : conV (X.map fun x => (⟨some ⟨x.g, 0, none⟩, x.c, x.L⟩ : VI)) = flat X := by simp [conV, flat, List.flatMap_map]
  have hin : InV w a (X.map fun x => (⟨some ⟨x.g, 0, none⟩, x.c, x.L⟩ : VI)) := by
    by_cases hX0 : X = []
    · left; simp [hX0]
    · right
      obtain ⟨x0, hx0⟩ : ∃ x0, X[0]? = some x0 := ⟨_, List.getElem?_eq_getElem (List.length_pos_iff.2 hX0)⟩
      obtain ⟨gR, cR, e, _⟩ := h.at_ hx0
      simp only [Value.slice.injEq] at e
      refine ⟨gR, 0, e.1, fun i x hx => ?_⟩
      rw [List.getElem?_map] at hx
      cases hxi : X[i]? with
      | none => rw [hxi] at hx; cases hx
      | some y =>
        rw [hxi] at hx
        simp only [Option.map_some, Option.some.injEq] at hx
        subst hx
        obtain ⟨gR2, cR2, e2, h2, _⟩ := h.at_ hxi
        simp only [Value.slice.injEq] at e2
        rw [e.1] at e2
        simp only [Option.some.injEq, Addr.mk.injEq] at e2
        rw [Nat.zero_add, e2.1.1]
        refine ⟨h2, .inr ⟨⟨y.g, 0, none⟩, rfl, fun j u hj => ?_⟩⟩
        rw [add_B, Nat.zero_add]
        exact (own_cellK (h.rows y (List.mem_of_getElem? hxi)) hj).1
  have C := concat_any w a c (X.map fun x => (⟨some ⟨x.g, 0, none⟩, x.c, x.L⟩ : VI)) hin (by rw [List.length_map]; exact hX) (by rw [hcv]; exact hN)
  rw [hcv, List.length_map] at C
  obtain ⟨n, hn⟩ : ∃ n, Hid (n = X.length) := ⟨_, rfl⟩
  rw [← hn.out] at C hc
  have HC := hidOf C
  generalize flat X = F at *
  obtain ⟨q, hq⟩ : ∃ q, Hid (q = F.length) := ⟨_, rfl⟩
  rw [← hq.out] at HC ⊢
  clear h hcv hin C hX hN ha
  go_enter Tryz.func70, Tryz.ntmps70
  go_wp2_with (go_at_call 69; refine HC.out.mono ?_; rintro e w1 ⟨a', c', rfl, hown, ho1⟩; have HO := hidOf hown; have O1 := hidOf ho1; clear hown ho1)
  go_ret
  exact ⟨a', c', rfl, HO.out, O1.out⟩
/-- by first addresses -/
def cmF (x y : Nat) : Int := if x < y then -1 else if y < x then 1 else 0
set_option maxHeartbeats 1000000 in
theorem isNaN_any (x : Nat) (w : World) : Calls Tryz.prog 101 #[.int .u64 x] w fun e w' => e = .returned (.bool false) ∧ w = w' := by
  go_enter Tryz.func101, Tryz.ntmps101
  go_wp2
  go_ret
  exact ⟨by simp, rfl⟩
set_option maxHeartbeats 1000000 in
theorem cmpU_any (x y : Nat) (w : World) : Calls Tryz.prog 73 #[.int .u64 x, .int .u64 y] w fun e w' => e = .returned (.int .i64 (cmF x y)) ∧ w = w' := by
  unfold cmF
  by_cases h1 : x < y
  · have hI : (x : Int) < y := by omega
    rw [if_pos h1]
    clear h1
    go_enter Tryz.func73, Tryz.ntmps73
    go_wp2_with (go_at_call 101; refine (isNaN_any _ _).mono ?_; rintro e w9 ⟨rfl, hw9⟩; subst hw9)
    go_ret
    exact ⟨rfl, rfl⟩
  · have hI : ¬ ((x : Int) < y) := by omega
    rw [if_neg h1]
    clear h1
    by_cases h2 : y < x
    · have hJ : (y : Int) < x := by omega
      rw [if_pos h2]
      clear h2
      go_enter Tryz.func73, Tryz.ntmps73
      go_wp2_with (go_at_call 101; refine (isNaN_any _ _).mono ?_; rintro e w9 ⟨rfl, hw9⟩; subst hw9)
      go_ret
      exact ⟨rfl, rfl⟩
    · have hJ : ¬ ((y : Int) < x) := by omega
      rw [if_neg h2]
      clear h2
      go_enter Tryz.func73, Tryz.ntmps73
      go_wp2_with (go_at_call 101; refine (isNaN_any _ _).mono ?_; rintro e w9 ⟨rfl, hw9⟩; subst hw9)
      go_ret
      exact ⟨rfl, rfl⟩
/-- a region as a tuple -/
def rgT (t : Nat × Option Nat × Nat × List UInt8) : Rg := ⟨t.1, t.2.1, t.2.2.1, t.2.2.2⟩
def tRg (x : Rg) : Nat × Option Nat × Nat × List UInt8 := (x.f, x.a, x.c, x.d)
def csT (t : Nat × Option Nat × Nat × List UInt8) : List Value := csG (rgT t)
def cmT (x y : Nat × Option Nat × Nat × List UInt8) : Int := cmF x.1 y.1
theorem ltT (x y : Nat × Option Nat × Nat × List UInt8) : Go.Proofs.ltOf cmT x y = decide (x.1 < y.1) := by
  unfold Go.Proofs.ltOf cmT cmF
  by_cases h1 : x.1 < y.1
  · simp [h1]
  · by_cases h2 : y.1 < x.1 <;> simp [h1, h2]
end Go.Proofs.YtekjfbmebekmeaaGreat
