import Derived.Test.YtfhmhdhaibmcfaaDoorEw
namespace Go.Proofs.YtfhmhdhaibmcfaaDoor
open Go.RowKit
set_option linter.unusedVariables false
set_option linter.unusedSimpArgs false
/-- the same tokens, lines aside (or not) -/
def Tk.raw (x : Tk) : Int × List UInt8 × Int := (x.k, x.t, x.n)
set_option maxHeartbeats 4000000 in
theorem alike_any (w : World) (a1 a2 : Option Addr) (c1 c2 : Nat) (S T : List Tk) (ln : Bool) (h1 : TksAt w a1 S) (h2 : TksAt w a2 T) (hraw : S.map Tk.raw = T.map Tk.raw) (hln : ln = true → S = T) (hl : S.length ≤ 4611686018427387904) :
    Calls Tryd.prog 21 #[.slice a1 S.length c1, .slice a2 T.length c2, .bool ln] w fun e w' => e = .returned (.bool true) ∧ Out w w' := by
  have hST : S.length = T.length := by have := congrArg List.length hraw; simpa using this
  have H1 := hidOf h1
  have H2 := hidOf h2
  have HR := hidOf hraw
  have HL := hidOf hln
  clear h1 h2 hraw hln
  rw [← hST]
  go_enter Tryd.func21, Tryd.ntmps21
  go_wp2
  go_loopw [7] (fun kv wr => ∃ k : Nat, kv = .int .i64 k ∧ k ≤ S.length ∧ Hid (Out w wr)) (fun kv _ => S.length - (intOf kv).toNat)
  case atStart => exact ⟨0, rfl, by omega, hidOf (Out.refl w)⟩
  case round =>
    obtain ⟨k, rfl, hk, HO⟩ := hrel
    by_cases hlt : k < S.length
    · have hltI : (k : Int) < S.length := by omega
      obtain ⟨x, hx⟩ : ∃ x, S[k]? = some x := ⟨_, List.getElem?_eq_getElem hlt⟩
      obtain ⟨y, hy⟩ : ∃ y, T[k]? = some y := ⟨_, List.getElem?_eq_getElem (by omega)⟩
      have hxy : x.raw = y.raw := by
        have := congrArg (·[k]?) HR.out
        simp only [List.getElem?_map, hx, hy, Option.map_some, Option.some.injEq] at this
        exact this
      have hyl : ln = true → x = y := fun h => by
        have := HL.out h
        rw [this, hy] at hx
        exact (Option.some.inj hx).symm
      obtain ⟨b1, o1, rfl, hc1⟩ := H1.out.at (fun h => by rw [h] at hlt; simp at hlt)
      obtain ⟨b2, o2, rfl, hc2⟩ := H2.out.at (fun h => by rw [h] at hST; simp at hST; rw [hST] at hlt; simp at hlt)
      obtain ⟨q0, q1, q2, q3⟩ := hc1 k x hx
      obtain ⟨p0, p1, p2, p3⟩ := hc2 k y hy
      obtain ⟨xk, xt, xn, xl⟩ := x
      obtain ⟨yk, yt, yn, yl⟩ := y
      simp only [Tk.raw, Prod.mk.injEq] at hxy
      obtain ⟨rfl, rfl, rfl⟩ := hxy
      simp only at q0 q1 q2 q3 p0 p1 p2 p3
      have q0 := cell_later HO.out q0
      have q1 := cell_later HO.out q1
      have q2 := cell_later HO.out q2
      have q3 := cell_later HO.out q3
      have p0 := cell_later HO.out p0
      have p1 := cell_later HO.out p1
      have p2 := cell_later HO.out p2
      have p3 := cell_later HO.out p3
      have e0 : (xk != xk) = false := by simp
      have e1 : (xt != xt) = false := by simp
      have e2 : (xn != xn) = false := by simp
      clear hc1 hc2 hx hy
      cases ln
      · go_upto_region 6 with fail
        go_quiet (fail)
        go_wp2
        go_roundw
        case rel => exact ⟨k + 1, by simp, by omega, hidOf (HO.out.drewN nq)⟩
        case measure => simp [intOf]; omega
      · have hxl : xl = yl := by have := hyl rfl; injection this
        subst hxl
        go_upto_region 6 with fail
        go_quiet (fail)
        go_wp2
        go_roundw
        case rel => exact ⟨k + 1, by simp, by omega, hidOf (HO.out.drewN nq)⟩
        case measure => simp [intOf]; omega
    · have hltI : ¬ (k : Int) < S.length := by omega
      go_wp2
      go_ret
      exact ⟨rfl, HO.out⟩
/-- each token has its line's number -/
def numP : Nat → List Tk → Bool
  | _, [] => false
  | ln, x :: r => if x.k = 0 then decide (r = []) && decide (x.l = (ln : Int) - 1) else if x.l = ln then numP (if x.k = 5 then ln + 1 else ln) r else false
set_option maxHeartbeats 4000000 in
theorem numbered_any (w : World) (a : Option Addr) (c : Nat) (T : List Tk) (h : TksAt w a T) (hn : numP 1 T = true) (hl : T.length ≤ 4611686018427387904) :
    Calls Tryd.prog 22 #[.slice a T.length c] w fun e w' => e = .returned (.bool true) ∧ Out w w' := by
  have H := hidOf h
  have HN := hidOf hn
  clear h hn
  go_enter Tryd.func22, Tryd.ntmps22
  go_wp2
  go_loopw [3, 4] (fun lv kv wr => ∃ ln k : Nat, lv = .int .i64 ln ∧ kv = .int .i64 k ∧ k ≤ T.length ∧ 1 ≤ ln ∧ ln ≤ k + 1 ∧ Hid (numP ln (T.drop k) = true) ∧ wr = w) (fun _ kv _ => T.length - (intOf kv).toNat)
  case atStart => exact ⟨1, 0, rfl, rfl, by omega, by omega, by omega, HN, rfl⟩
  case round =>
    obtain ⟨ln, k, rfl, rfl, hk, hln1, hln, HS, rfl⟩ := hrel
    by_cases hlt : k < T.length
    · have hltI : (k : Int) < T.length := by omega
      obtain ⟨x, hx⟩ : ∃ x, T[k]? = some x := ⟨_, List.getElem?_eq_getElem hlt⟩
      obtain ⟨b1, o1, rfl, hc1⟩ := H.out.at (fun h => by rw [h] at hlt; simp at hlt)
      obtain ⟨q0, q1, q2, q3⟩ := hc1 k x hx
      have hs := HS.out
      rw [drop_at hx] at hs
      have hr : T.drop (k + 1) = [] ↔ k + 1 = T.length := by rw [List.drop_eq_nil_iff]; omega
      obtain ⟨xk, xt, xn, xl⟩ := x
      simp only at q0 q3
      unfold numP at hs
      simp only at hs
      have hlnI : (ln : Int) ≤ 4611686018427387904 + 1 := by omega
      clear hc1 hx q1 q2 HS
      by_cases k0 : xk = 0
      · subst k0
        rw [if_pos rfl] at hs
        simp only [Bool.and_eq_true, decide_eq_true_eq] at hs
        have hkl := hr.1 hs.1
        obtain ⟨hs1, rfl⟩ := hs
        have e1 : ((k : Int) == (T.length : Int) - 1) = true := by simp; omega
        clear hr hkl hs1
        go_wp2
        all_goals go_ret
        all_goals (refine ⟨?_, Out.refl _⟩; simp_all)
      · have k0' : (xk == 0) = false := by simpa using k0
        rw [if_neg k0] at hs
        by_cases hxl : xl = (ln : Int)
        · subst hxl
          rw [if_pos rfl] at hs
          by_cases k5 : xk = 5
          · subst k5
            rw [if_pos rfl] at hs
            have HS := hidOf hs
            clear hs
            go_wp2
            go_roundw
            case rel => exact ⟨ln + 1, k + 1, by simp, by simp, by omega, by omega, by omega, HS, trivial⟩
            case measure => simp [intOf]; omega
          · have k5' : (xk == 5) = false := by simpa using k5
            rw [if_neg k5] at hs
            have HS := hidOf hs
            clear hs
            go_wp2
            go_roundw
            case rel => exact ⟨ln, k + 1, by simp, by simp, by omega, by omega, by omega, HS, trivial⟩
            case measure => simp [intOf]; omega
        · rw [if_neg hxl] at hs; cases hs
    · have hke : k = T.length := by omega
      have hs := HS.out
      rw [hke, List.drop_length] at hs
      cases hs
end Go.Proofs.YtfhmhdhaibmcfaaDoor
