import Derived.Test.YtekjfbmebekmeaaGreatMcb
import Derived.Test.YtekjfbmebekmeaaGreatMby
namespace Go.Proofs.YtekjfbmebekmeaaGreat
open Go.RowKit
set_option linter.unusedVariables false
set_option linter.unusedSimpArgs false
theorem run_one {r : RI} {F E : List Rg} (h : Run [r] F E) (hd : ¬ r.d = []) : ∃ x, F = [x] ∧ E = [] ∧ x.f = r.f ∧ x.d = r.d := by
  generalize hL : [r] = L at h
  cases h with
  | nil => cases hL
  | addE L F E E' r' x h1 h2 h3 h4 h5 h6 =>
    have : L = [] ∧ r = r' := by
      cases L with
      | nil => simp at hL; exact ⟨rfl, hL⟩
      | cons a L => simp at hL
    obtain ⟨rfl, rfl⟩ := this
    exact absurd h3 hd
  | addF L F E F' r' x h1 h2 h3 h4 h5 h6 =>
    have : L = [] ∧ r = r' := by
      cases L with
      | nil => simp at hL; exact ⟨rfl, hL⟩
      | cons a L => simp at hL
    obtain ⟨rfl, rfl⟩ := this
    have hne : F = [] ∧ E = [] := by
      generalize hL2 : ([] : List RI) = L at h1
      cases h1 with
      | nil => exact ⟨rfl, rfl⟩
      | addE L _ _ _ _ _ _ _ _ _ _ _ => cases L <;> simp at hL2
      | addF L _ _ _ _ _ _ _ _ _ _ _ => cases L <;> simp at hL2
    obtain ⟨rfl, rfl⟩ := hne
    obtain ⟨P, Q, e1, e2, _, _⟩ := h6
    obtain ⟨rfl, rfl⟩ := List.append_eq_nil_iff.1 e1.symm
    exact ⟨x, e2, rfl, h4, h5⟩
def rA (q : Nat) : RI := ⟨16, some ⟨q, 0, none⟩, 3, [1, 2, 3]⟩
theorem new_awake {w w' : World} {q : Nat} {e : Ending} (h : NewE [rA q] w e w') : ∃ s v1 v2 X Y x, e = .returned (.tuple #[.pointer (some ⟨s, 0, none⟩), .int .i64 0]) ∧ SpD w.heap.size w' s v1 v2 X Y 1 ∧ Out w w' ∧ flat X = [x] ∧ x.f = 16 ∧ x.d = [1, 2, 3] := by
  rcases h with ⟨_, _, k, r, F, E, hk, hr, hno⟩ | ⟨s, v1, v2, X, Y, he, hsp, ho, hr⟩
  · exfalso
    have hk0 : k = 0 := by
      have := (List.getElem?_eq_some_iff.1 hk).1
      simp at this; exact this
    subst hk0
    simp at hk
    subst hk
    simp at hr
    have hne : F = [] ∧ E = [] := by
      generalize hL2 : ([] : List RI) = L at hr
      cases hr with
      | nil => exact ⟨rfl, rfl⟩
      | addE L _ _ _ _ _ _ _ _ _ _ _ => cases L <;> simp at hL2
      | addF L _ _ _ _ _ _ _ _ _ _ _ => cases L <;> simp at hL2
    obtain ⟨rfl, rfl⟩ := hne
    revert hno
    simp [noP, rA, mayR, clP, upF]
  · obtain ⟨x, h1, h2, h3, h4⟩ := run_one hr (by simp [rA])
    exact ⟨s, v1, v2, X, Y, x, he, hsp, ho, h1, h3, h4⟩
theorem acP_awake {x : Rg} (hf : x.f = 16) (hd : x.d.length = 3) (n : Nat) (hn : n ≤ 2) : acP [x] 17 n = some (x, 1) := by
  have hu : upF [x] 17 = some x := upF_some (P := []) (Q := []) (by omega) (by simp)
  unfold acP
  rw [hu]
  simp only
  rw [hf, hd, if_pos (by omega)]
set_option maxHeartbeats 2000000 in
set_option maxRecDepth 100000 in
theorem awake_any (w : World) : Calls Tryz.prog 9 #[] w fun e w' => e = .returned (.bool true) ∧ Out w w' := by
  obtain ⟨wA, HA, bA, cA0, cA1, oA⟩ : ∃ wA, Hid (wA = (w.alloc (.cells #[.int .u8 1, .int .u8 2, .int .u8 3] 5)).alloc (.cells #[.int .u64 16, .slice (some ⟨w.heap.size, 0, none⟩) 3 3] 36)) ∧ wA.heap[w.heap.size]? = some (.cells #[.int .u8 1, .int .u8 2, .int .u8 3] 5 (0, 0)) ∧ wA.cell? ⟨w.heap.size + 1, 0, none⟩ = some (.int .u64 16) ∧ wA.cell? ⟨w.heap.size + 1, 1, none⟩ = some (.slice (some ⟨w.heap.size, 0, none⟩) 3 3) ∧ Out w wA := by
    refine ⟨_, rfl, blk_out (heap_alloc_new w _) ((Out.refl _).alloc _), ?_, ?_, ((Out.refl w).alloc _).alloc _⟩
    · rw [cell_fresh _ _ _ 0 _ (size_alloc w _).symm]; rfl
    · rw [cell_fresh _ _ _ 1 _ (size_alloc w _).symm]; rfl
  have hin : InR wA (some ⟨w.heap.size + 1, 0, none⟩) [rA w.heap.size] := .inr ⟨w.heap.size + 1, 0, rfl, fun i x hx => by
    have hi : i = 0 := by
      have := (List.getElem?_eq_some_iff.1 hx).1
      simp at this; exact this
    subst hi
    simp at hx
    subst hx
    refine ⟨cA0, cA1, .inr ⟨⟨w.heap.size, 0, none⟩, rfl, fun j u hj => ?_⟩⟩
    rw [add_B, Nat.zero_add, cell_B bA]
    rw [← hj]
    match j with
    | 0 => rfl
    | 1 => rfl
    | 2 => rfl
    | j + 3 => rfl⟩
  have NW := hidOf (New_any wA (some ⟨w.heap.size + 1, 0, none⟩) 1 [rA w.heap.size] hin (by intro x hx; simp at hx; subst hx; exact ⟨by show (16 : Nat) < 18446744073709551616; decide, by show (3 : Nat) ≤ 140737488355328; decide⟩) (by show (1 : Nat) ≤ 5864062014000; decide))
  have OA := hidOf oA
  clear bA cA0 cA1 oA hin
  go_enter Tryz.func9, Tryz.ntmps9
  go_upto_region 2 with (go_at_call 16; rw [← HA.out]; refine NW.out.mono ?_; intro e w1 hne; obtain ⟨s, v1, v2, X, Y, x, rfl, hsp, ho1, hX, hxf, hxd⟩ := new_awake hne; have SP := hidOf hsp; have O1 := hidOf ho1; have HX := hidOf hX; have HF := hidOf hxf; have HD := hidOf hxd; clear hne hsp ho1 hX hxf hxd)
  have SC : Hid (Calls Tryz.prog 30 #[.pointer (some ⟨s, 0, none⟩), .int .u64 17, .int .i64 16, .int .u64 1541] w1 fun e w' => e = .returned (.int .i64 0) ∧ SpD wA.heap.size w' s v1 v2 (updX 16 [1, 5, 6] X) Y 1 ∧ Chg (dbs (flat X ++ flat Y)) w1 w') := hidOf (by
    refine (Store_any w1 wA.heap.size s v1 v2 X Y 1 17 1541 16 SP.out (by decide) (by decide)).mono ?_
    have hacc : acP (flat X) 17 (widN 16) = some (x, 1) := by rw [HX.out]; exact acP_awake HF.out (by rw [HD.out]; rfl) 2 (by decide)
    rintro e w' (⟨h9, _⟩ | ⟨y, o, h9, he, hsp, hc⟩)
    · rw [hacc] at h9; cases h9
    · rw [hacc] at h9
      cases h9
      refine ⟨he, ?_, hc⟩
      have e1 : layL x.d 1 (bysN 1541 (widN 16)) = [1, 5, 6] := by rw [HD.out]; decide
      rw [HF.out, e1] at hsp
      exact hsp)
  go_upto_region 5 with (go_at_call 30; refine SC.out.mono ?_; rintro e w2 ⟨rfl, hsp2, hc2⟩; have SP2 := hidOf hsp2; have C2 := hidOf hc2; clear hsp2 hc2)
  have LC : Hid (Calls Tryz.prog 28 #[.pointer (some ⟨s, 0, none⟩), .int .u64 17, .int .i64 8] w2 fun e w' => e = .returned (.tuple #[.int .u64 5, .int .i64 0]) ∧ Out w2 w') := hidOf (by
    refine (Load_any w2 wA.heap.size s v1 v2 (updX 16 [1, 5, 6] X) Y 1 17 8 SP2.out (by decide)).mono ?_
    have hfl : flat (updX 16 [1, 5, 6] X) = [{ x with d := [1, 5, 6] }] := by
      rw [flat_updX, HX.out]
      simp [updR, HF.out]
    have hlp : LoadP (flat (updX 16 [1, 5, 6] X)) 17 (widN 8) = (5, 0) := by
      rw [hfl, LoadP, show widN 8 = 1 from rfl, acP_awake (x := { x with d := [1, 5, 6] }) HF.out rfl 1 (by decide)]
      rfl
    rw [hlp]
    rintro e w' ⟨he, ho⟩
    exact ⟨he, ho⟩)
  go_wp2_with (go_at_call 28; refine LC.out.mono ?_; rintro e w3 ⟨rfl, ho3⟩; have O3 := hidOf ho3; clear ho3)
  go_ret
  have hOw2 : Out wA w2 := Chg.out C2.out O1.out (fun k hk => by
    obtain ⟨z, hz, hb⟩ := hk
    exact (DaI.blk (SP.out.da z hz) hb).1)
  exact ⟨by simp, (OA.out.trans hOw2).trans O3.out⟩
end Go.Proofs.YtekjfbmebekmeaaGreat
