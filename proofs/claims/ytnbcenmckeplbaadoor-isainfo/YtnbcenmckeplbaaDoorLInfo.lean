import Derived.Test.YtnbcenmckeplbaaDoorMd
import Derived.Test.YtnbcenmckeplbaaDoorCm
import Derived.Test.YtnbcenmckeplbaaDoorJg
import Derived.ChangeSlices
namespace Go.Proofs.YtnbcenmckeplbaaDoor
open Go.ChangeShapes Go.WideShapes Go.ChangeAt Go.RowKit Go.Sort
set_option linter.unusedVariables false
set_option linter.unusedSimpArgs false

def IsInts (w : World) (a : Option Addr) (len : Nat) : Prop := len = 0 ∨ ∃ b off : Nat, a = some ⟨b, off, none⟩ ∧ ∀ i, i < len → ∃ z : Int, w.cell? ⟨b, off + i, none⟩ = some (.int .i64 z)
set_option maxRecDepth 20000 in
theorem open_isints {H : Type} {enc : TypeId × Value → H} {w : World} {base : Nat} {spare : Nat → Bool} {held : Bool} {fuel : Nat} {a : Option Addr} {len cap : Nat} {x : DataW H × List MemPlace}
    (h : DataW.trod enc Tryd.prog w base spare held fuel 31 [.slice a len cap] = some x) : IsInts w a len ∧ len ≤ maxLen := by
  rcases open_ints Tryd.underlying31 Tryd.underlying3 cellsInt h with ⟨hcs, _⟩ | ⟨ad, l, c, zs, hcs, hb, hl, hm, hzl, _, hc, _⟩
  · simp at hcs
    obtain ⟨rfl, rfl, rfl⟩ := hcs
    exact ⟨.inl rfl, Nat.zero_le _⟩
  · simp at hcs
    obtain ⟨rfl, rfl, rfl⟩ := hcs
    refine ⟨?_, by omega⟩
    have hle : len ≤ zs.length := by rw [hzl]; split <;> omega
    by_cases z : len = 0
    · exact .inl z
    obtain ⟨b, off, spot⟩ := ad
    have hs : spot = none := by simpa [Addr.add] using World.cell?_spot (hc 0 (by omega))
    subst hs
    refine .inr ⟨b, off, rfl, fun i hi => ⟨zs.getD i 0, ?_⟩⟩
    have := hc i (by omega)
    rwa [add_plain] at this
theorem up_prefix : ∀ (m k : Nat), k ≤ m → ∃ r, opsUp m = opsUp k ++ r
  | 0, k, h => ⟨[], by obtain rfl : k = 0 := by omega
                       simp⟩
  | m + 1, k, h => by
    by_cases e : k = m + 1
    · subst e; exact ⟨[], by simp⟩
    · obtain ⟨r, hr⟩ := up_prefix m k (by omega)
      simp only [opsUp]
      split
      · exact ⟨r, hr⟩
      · exact ⟨r ++ [(m : Int)], by rw [hr, List.append_assoc]⟩
theorem opsS_len : opsS.length = 119 := by rw [← ops_sorted, sortZ_len, opsZ_len]
theorem up_at (k : Nat) (hk : k < 256) (h : (formP (k : Int) == 0) = false) : opsUp (k + 1) = opsUp k ++ [(k : Int)] ∧ (opsUp k).length < 119 ∧ opsS.getD (opsUp k).length 0 = k := by
  have hn := rows_none k hk
  rw [h] at hn
  have e1 : opsUp (k + 1) = opsUp k ++ [(k : Int)] := by simp [opsUp, ← hn]
  obtain ⟨r, hr⟩ := up_prefix 256 (k + 1) (by omega)
  have hr' : opsS = opsUp k ++ ((k : Int) :: r) := by rw [opsS, hr, e1]; simp
  have hl : (opsUp k).length < opsS.length := by rw [hr']; simp
  refine ⟨e1, by rw [← opsS_len]; exact hl, ?_⟩
  rw [hr']; simp [List.getD]
theorem up_not (k : Nat) (hk : k < 256) (h : (formP (k : Int) == 0) = true) : opsUp (k + 1) = opsUp k := by
  have hn := rows_none k hk
  rw [h] at hn
  simp [opsUp, ← hn]
theorem refInfo_lit (op : Int) (w : World) (hf : (formP op == 0) = false) : Calls Tryd.prog 13 #[.int .i64 op] w fun e w' => e = .returned (.tuple #[.agg #[.int .i64 (formP op), .int .i64 (groupP op (formP op)), .bool (useD op (formP op)), .bool (useS op (formP op)), .bool (useO op (formP op)), .bool (useI op (formP op))], .int .i64 0]) ∧ Out w w' := refInfo_ok op w hf
theorem refInfo_zero (op : Int) (w : World) (hf : (formP op == 0) = true) : Calls Tryd.prog 13 #[.int .i64 op] w fun e w' => e = .returned (.tuple #[.agg #[.int .i64 0, .int .i64 0, .bool false, .bool false, .bool false, .bool false], .int .i64 20]) ∧ Out w w' := refInfo_no op w hf
theorem info_ok_out (op : Int) (w : World) (h : TabO w) (hf : (formP op == 0) = false) : Calls Tryd.prog 14 #[.int .i64 op] w fun e w' => e = .returned (.tuple #[.agg #[.int .i64 (formP op), .int .i64 (groupP op (formP op)), .bool (useD op (formP op)), .bool (useS op (formP op)), .bool (useO op (formP op)), .bool (useI op (formP op))], .int .i64 0]) ∧ Out w w' := by
  refine (info_ok_lit op w h hf).mono ?_
  rintro e w1 ⟨rfl, rfl⟩
  exact ⟨rfl, by repeat (first | exact Out.refl _ | apply Out.alloc)⟩
theorem info_no_out (op : Int) (w : World) (h : TabO w) (hf : (formP op == 0) = true) : Calls Tryd.prog 14 #[.int .i64 op] w fun e w' => e = .returned (.tuple #[.agg #[.int .i64 0, .int .i64 0, .bool false, .bool false, .bool false, .bool false], .int .i64 20]) ∧ Out w w' := by
  refine (info_no_lit op w h hf).mono ?_
  rintro e w1 ⟨rfl, rfl⟩
  exact ⟨rfl, by repeat (first | exact Out.refl _ | apply Out.alloc)⟩
theorem num_any2 (n : Int) (w : World) : Calls Tryd.prog 11 #[.int .i64 n] w fun e w' => e = .returned (.int .i64 n) ∧ w = w' := by
  go_enter Tryd.func11, Tryd.ntmps11
  go_wp2
  go_ret
  exact ⟨rfl, rfl⟩
set_option maxRecDepth 20000 in
theorem isaInfo_walk (a : Option Addr) (len cap : Nat) (w : World) (hi : IsInts w a len) (hlen : len ≤ maxLen) (hO : TabO w) : Calls Tryd.prog 4 #[.slice a len cap] w fun e w' => e = .returned (.bool true) ∧ Out w w' := by
  have hm : (len : Int) ≤ 9223372036854775807 := by simp only [maxLen] at hlen; omega
  go_enter Tryd.func4, Tryd.ntmps4
  go_wp2
  go_loopw [3] (fun j wr => ∃ k : Nat, k ≤ len ∧ j = .int .i64 k ∧ Out w wr) (fun j _ => len - (intOf j).toNat)
  case atStart => exact ⟨0, by omega, rfl, Out.refl _⟩
  case round =>
    obtain ⟨k, hk, rfl, hor⟩ := hrel
    by_cases hkl : k < len
    · rcases hi with hz | ⟨b, off, rfl, hc⟩
      · omega
      obtain ⟨op, c0⟩ := hc k hkl
      have q0 := cell_later hor c0
      clear hc c0
      cases hf : (formP op == 0)
      · have hri := fun w => refInfo_lit op w hf
        have hpi := fun w h => info_ok_lit op w h hf
        go_wp2_with (first | (go_at_call 13; refine (hri _).mono ?_; rintro e w1 ⟨rfl, h1⟩; have p0 : ∀ o, (w1.alloc o).cell? ⟨b, off + k, none⟩ = some (.int .i64 op) := fun o => cell_later (Out.alloc h1 o) q0) | (go_at_call 14; refine (hpi _ ((hO.out (Out.trans hor h1)).alloc _)).mono ?_; rintro e w2 ⟨rfl, rfl⟩) | (go_at_call 11; refine (num_any2 _ _).mono ?_; rintro e w3 ⟨rfl, rfl⟩))
        exact ⟨⟨k + 1, by omega, by simp, by repeat (first | exact Out.trans hor h1 | apply Out.alloc)⟩, by simp [intOf]; omega⟩
      · have hri := fun w => refInfo_zero op w hf
        have hpi := fun w h => info_no_lit op w h hf
        go_wp2_with (first | (go_at_call 13; refine (hri _).mono ?_; rintro e w1 ⟨rfl, h1⟩; have p0 : ∀ o, (w1.alloc o).cell? ⟨b, off + k, none⟩ = some (.int .i64 op) := fun o => cell_later (Out.alloc h1 o) q0) | (go_at_call 14; refine (hpi _ ((hO.out (Out.trans hor h1)).alloc _)).mono ?_; rintro e w2 ⟨rfl, rfl⟩) | (go_at_call 11; refine (num_any2 _ _).mono ?_; rintro e w3 ⟨rfl, rfl⟩))
        exact ⟨⟨k + 1, by omega, by simp, by repeat (first | exact Out.trans hor h1 | apply Out.alloc)⟩, by simp [intOf]; omega⟩
    · obtain rfl : k = len := by omega
      clear hi
      have hops := ops_walk wr (hO.out hor)
      rw [ops_sorted] at hops
      go_wp2_with (go_at_call 15; refine hops.mono ?_; rintro e w1 ⟨v, rfl, hv1, ho1⟩; clear hops)
      rw [opsS_len] at hv1
      rcases hv1.2 with ⟨_, e⟩ | ⟨g, cap2, cur, rfl, hb, hg, x1, x2, x3, x4⟩
      · omega
      have hn1 := nums_of_own (l := opsS) (by rw [opsS_len]; exact hv1)
      have hcell : ∀ j, j < 119 → w1.cell? ⟨g, j, none⟩ = some (.int .i64 (opsS.getD j 0)) := by
        rcases hn1 with ⟨_, e⟩ | ⟨b2, c2, e, hc⟩
        · simp at e
        · simp only [Value.slice.injEq, Option.some.injEq, Addr.mk.injEq, and_true] at e
          obtain ⟨rfl, _, _⟩ := e
          rw [opsS_len] at hc; exact hc
      clear hb hg x1 x2 x3 x4
      go_loopw [9, 10] (fun a2 i wr2 => ∃ k2 : Nat, k2 ≤ 256 ∧ i = .int .i64 k2 ∧ a2 = .int .i64 ((opsUp k2).length : Nat) ∧ Out w1 wr2) (fun _ i _ => 256 - (intOf i).toNat)
      case atStart => exact ⟨0, by omega, rfl, rfl, Out.refl _⟩
      case round =>
        obtain ⟨k2, hk2, rfl, rfl, hor2⟩ := hrel
        by_cases hk3 : k2 < 256
        · have hki : (k2 : Int) < 256 := by omega
          have hT := hO.out (Out.trans hor (Out.trans ho1 hor2))
          cases hf : (formP (k2 : Int) == 0)
          · obtain ⟨u1e, u2e, u3e⟩ := up_at k2 hk3 hf
            have HU : Hid ((opsUp (k2 + 1)).length = (opsUp k2).length + 1) := by simp [u1e, Hid]
            have q0 := cell_later hor2 (hcell _ u2e)
            rw [u3e] at q0
            have hpi := fun w h => info_ok_out (k2 : Int) w h hf
            clear u1e u3e
            generalize (opsUp k2).length = m at *
            have hne : ((k2 : Int) != (k2 : Int)) = false := by simp
            have hm2 : (m : Int) < 119 := by omega
            go_wp2_with (go_at_call 14; refine (hpi _ hT).mono ?_; rintro e w2 ⟨rfl, h2⟩; have p0 : ∀ o, (w2.alloc o).cell? ⟨g, m, none⟩ = some (.int .i64 k2) := fun o => cell_later (Out.alloc h2 o) q0)
            exact ⟨⟨k2 + 1, by omega, by simp, by rw [HU.out]; simp, Out.alloc (Out.trans hor2 h2) _⟩, by simp [intOf]; omega⟩
          · have HU : Hid ((opsUp (k2 + 1)).length = (opsUp k2).length) := by simp [up_not k2 hk3 hf, Hid]
            have hpi := fun w h => info_no_out (k2 : Int) w h hf
            go_wp2_with (go_at_call 14; refine (hpi _ hT).mono ?_; rintro e w2 ⟨rfl, h2⟩)
            exact ⟨⟨k2 + 1, by omega, by simp, by rw [HU.out], Out.alloc (Out.trans hor2 h2) _⟩, by simp [intOf]; omega⟩
        · obtain rfl : k2 = 256 := by omega
          have e119 : (opsUp 256).length = 119 := opsS_len
          rw [e119]
          go_wp2_with (first | (go_at_call 16; refine (refOps_walk _).mono ?_; rintro e w2 ⟨v2, rfl, hv2, ho2⟩) | (go_at_call 17; refine (same_any (l := opsS) (by rw [opsS_len]; decide) (hn1.out (Out.trans hor2 ho2)) (nums_of_own hv2)).mono ?_; rintro e w3 ⟨rfl, h3⟩))
          go_ret
          exact ⟨rfl, Out.trans hor (Out.trans ho1 (Out.trans hor2 (Out.trans ho2 h3)))⟩
end Go.Proofs.YtnbcenmckeplbaaDoor
