import Derived.Test.YtigdlgpkepledaaMcb
import Derived.Test.YtigdlgpkepledaaMby
namespace Go.Proofs.Ytigdlgpkepledaa
open Go.RowKit
set_option linter.unusedVariables false
set_option linter.unusedSimpArgs false
set_option maxHeartbeats 1000000 in
theorem told_any (w : World) (B s : Nat) (v1 v2 : Value) (X Y : List Rw) (m : Nat) (h : SpD B w s v1 v2 X Y m) (hm : m ≤ 4398046511104) :
    Calls Try.prog 7 #[.pointer (some ⟨s, 0, none⟩)] w fun e w' => ∃ a' c', ∃ R : List Rg, e = .returned (.tuple #[.slice a' R.length c', .bool true]) ∧ w'.ownsRow w.heap.size 39 2 (.slice a' R.length c') R.length (rowG R) ∧ (∀ z ∈ R, DaI w.heap.size w' z) ∧ (R.map fdR).Perm ((flat X ++ flat Y).map fdR) ∧ Srt R ∧ Out w w' := by
  have C := hidOf (Regions_any w B s v1 v2 X Y m h hm)
  generalize flat X ++ flat Y = F at *
  clear h
  go_enter Try.func7, Try.ntmps7
  go_wp2_with (go_at_call 13; refine C.out.mono ?_; rintro e w1 ⟨a', c', R, rfl, h1, h2, h3, h4, h5⟩; have H1 := hidOf h1; have H2 := hidOf h2; have H3 := hidOf h3; have H4 := hidOf h4; have H5 := hidOf h5; clear h1 h2 h3 h4 h5; generalize hl : R.length = l at *; have HL := hidOf hl; clear hl)
  refine bodyPost_ret (results_tmp2 rfl _ _ _) rfl ?_
  refine ⟨a', c', R, by rw [HL.out]; rfl, by rw [HL.out]; exact H1.out, H2.out, H3.out, H4.out, H5.out⟩
set_option maxHeartbeats 2000000 in
theorem held_any (w : World) (B : Nat) (a : Option Addr) (c : Nat) (R : List Rg) (at_ k : Nat) (hown : w.ownsRow B 39 2 (.slice a R.length c) R.length (rowG R)) (hR : ∀ z ∈ R, z.f < 18446744073709551616 ∧ z.d.length ≤ 140737488355328) (ha : at_ < 18446744073709551616) (hk : k ≤ 8) (hlen : R.length ≤ 4398046511104) :
    Calls Try.prog 10 #[.slice a R.length c, .int .u64 at_, .int .u64 k] w fun e w' => e = .returned (.bool (heldP R at_ k)) ∧ w = w' := by
  obtain ⟨n, hn⟩ : ∃ n, Hid (n = R.length) := ⟨_, rfl⟩
  rw [← hn.out] at hown hlen ⊢
  have OWN := hidOf hown
  have HR := hidOf hR
  clear hown hR
  have hq : ∀ i, i < n → ∃ (z : Rg) (g : Nat), R[i]? = some z ∧ a = some ⟨g, 0, none⟩ ∧ w.cell? ⟨g, i * 2, none⟩ = some (.int .u64 (z.f : Nat)) ∧ w.cell? ⟨g, i * 2 + 1, none⟩ = some (.slice (z.a.map fun b => ⟨b, 0, none⟩) z.d.length z.c) := fun i hi => by
    obtain ⟨z, hz⟩ : ∃ z, R[i]? = some z := ⟨_, List.getElem?_eq_getElem (by rw [← hn.out]; exact hi)⟩
    obtain ⟨g, cc, e, _, _⟩ := OWN.out.form (by omega)
    simp only [Value.slice.injEq] at e
    obtain ⟨rfl, _, rfl⟩ := e
    obtain ⟨g0, g1⟩ := rowG_get hz
    exact ⟨z, g, hz, rfl, (own_cellK OWN.out g0).1, (own_cellK OWN.out g1).1⟩
  have HQ := hidOf hq
  clear hq
  go_enter Try.func10, Try.ntmps10
  go_wp2
  go_loopw [7] (fun kv wr => ∃ i : Nat, kv = .int .i64 (i : Nat) ∧ i ≤ n ∧ Hid (heldP (R.take i) at_ k = false) ∧ Hid (wr = w)) (fun kv _ => n - (intOf kv).toNat)
  case atStart => exact ⟨0, rfl, Nat.zero_le _, hidOf rfl, hidOf rfl⟩
  case round =>
    obtain ⟨i, rfl, hi, HN, HW⟩ := hrel
    have hww := HW.out
    clear HW
    subst hww
    by_cases hin : i < n
    · have hlt : (i : Int) < n := by omega
      obtain ⟨z, g, hz, rfl, q0, q1⟩ := HQ.out i hin
      obtain ⟨hzf, hzl⟩ := HR.out z (List.mem_of_getElem? hz)
      have hst : Hid (heldP (R.take (i + 1)) at_ k = (decide (k ≤ z.d.length) && decide (z.f ≤ at_) && decide (at_ - z.f ≤ z.d.length - k))) := hidOf (by
        have h0 := HN.out
        unfold heldP at h0 ⊢
        rw [List.take_add_one, hz, List.any_append, h0]
        simp)
      have hfull : Hid (heldP (R.take (i + 1)) at_ k = true → heldP R at_ k = true) := hidOf (fun h => by
        unfold heldP at h ⊢
        rw [List.any_eq_true] at h ⊢
        obtain ⟨x, hx, hp⟩ := h
        exact ⟨x, List.mem_of_mem_take hx, hp⟩)
      generalize z.f = zf at *
      generalize z.d.length = zl at *
      generalize z.c = zc at *
      generalize (z.a.map fun b => (⟨b, 0, none⟩ : Addr)) = za at *
      have hwl : IntKind.u64.wrap (zl : Int) = (zl : Int) := by rw [IntKind.wrap_u64]; omega
      clear hz
      by_cases h1 : k ≤ zl
      · have h1I : (k : Int) ≤ zl := by omega
        have hw1 : IntKind.u64.wrap ((zl : Int) - k) = ((zl - k : Nat) : Int) := by rw [IntKind.wrap_u64]; omega
        by_cases h2 : zf ≤ at_
        · have h2I : (zf : Int) ≤ at_ := by omega
          have hw2 : IntKind.u64.wrap ((at_ : Int) - zf) = ((at_ - zf : Nat) : Int) := by rw [IntKind.wrap_u64]; omega
          by_cases h3 : at_ - zf ≤ zl - k
          · have h3I : ((at_ - zf : Nat) : Int) ≤ ((zl - k : Nat) : Int) := by omega
            have hst2 := hst.out
            rw [show decide (k ≤ zl) = true by simpa using h1, show decide (zf ≤ at_) = true by simpa using h2, show decide (at_ - zf ≤ zl - k) = true by simpa using h3] at hst2
            have HT := hidOf (hfull.out hst2)
            clear h1 h2 h3 hst2
            go_wp2
            go_ret
            exact ⟨by rw [HT.out]; rfl, rfl⟩
          · have h3I : ¬ (((at_ - zf : Nat) : Int) ≤ ((zl - k : Nat) : Int)) := by omega
            have hst2 := hst.out
            rw [show decide (at_ - zf ≤ zl - k) = false by simpa using h3, Bool.and_false] at hst2
            have HT := hidOf hst2
            clear h1 h2 h3 hst2
            go_wp2
            go_roundw
            case rel => exact ⟨i + 1, by simp, by omega, HT, (by first | exact hidOf rfl | exact hidOf trivial)⟩
            case measure => simp [intOf]; omega
        · have h2I : ¬ ((zf : Int) ≤ at_) := by omega
          have hst2 := hst.out
          rw [show decide (zf ≤ at_) = false by simpa using h2, Bool.and_false, Bool.false_and] at hst2
          have HT := hidOf hst2
          clear h1 h2 hst2
          go_wp2
          go_roundw
          case rel => exact ⟨i + 1, by simp, by omega, HT, (by first | exact hidOf rfl | exact hidOf trivial)⟩
          case measure => simp [intOf]; omega
      · have h1I : ¬ ((k : Int) ≤ zl) := by omega
        have hst2 := hst.out
        rw [show decide (k ≤ zl) = false by simpa using h1, Bool.false_and, Bool.false_and] at hst2
        have HT := hidOf hst2
        clear h1 hst2
        go_wp2
        go_roundw
        case rel => exact ⟨i + 1, by simp, by omega, HT, (by first | exact hidOf rfl | exact hidOf trivial)⟩
        case measure => simp [intOf]; omega
    · have hlt : ¬ (i : Int) < n := by omega
      obtain rfl : n = i := by omega
      have ht : R.take n = R := by rw [hn.out]; exact List.take_length
      have hh := HN.out
      rw [ht] at hh
      have HH := hidOf hh
      clear hh ht
      go_wp2
      go_ret
      exact ⟨by rw [HH.out]; rfl, rfl⟩
theorem run_one {r : RI} {F E : List Rg} (h : Run [r] F E) (hd : ¬ r.d = []) : ∃ x, F = [x] ∧ E = [] ∧ x.f = r.f ∧ x.d = r.d := by
  generalize hL : [r] = L at h
  cases h with
  | nil => cases hL
  | addE L F E E' r' x h1 h2 h3 h4 h5 h6 =>
    have : L = [] ∧ r = r' := by
      cases L with
      | nil => simp at hL; exact ⟨rfl, hL⟩
      | cons a L => simp at hL
    obtain ⟨rfl, rfl⟩ := this
    exact absurd h3 hd
  | addF L F E F' r' x h1 h2 h3 h4 h5 h6 =>
    have : L = [] ∧ r = r' := by
      cases L with
      | nil => simp at hL; exact ⟨rfl, hL⟩
      | cons a L => simp at hL
    obtain ⟨rfl, rfl⟩ := this
    have hne : F = [] ∧ E = [] := by
      generalize hL2 : ([] : List RI) = L at h1
      cases h1 with
      | nil => exact ⟨rfl, rfl⟩
      | addE L _ _ _ _ _ _ _ _ _ _ _ => cases L <;> simp at hL2
      | addF L _ _ _ _ _ _ _ _ _ _ _ => cases L <;> simp at hL2
    obtain ⟨rfl, rfl⟩ := hne
    obtain ⟨P, Q, e1, e2, _, _⟩ := h6
    obtain ⟨rfl, rfl⟩ := List.append_eq_nil_iff.1 e1.symm
    exact ⟨x, e2, rfl, h4, h5⟩
def rA (q : Nat) : RI := ⟨16, some ⟨q, 0, none⟩, 3, [1, 2, 3]⟩
theorem new_awake {w w' : World} {q : Nat} {e : Ending} (h : NewE [rA q] w e w') : ∃ s v1 v2 X Y x, e = .returned (.tuple #[.pointer (some ⟨s, 0, none⟩), .int .i64 0]) ∧ SpD w.heap.size w' s v1 v2 X Y 1 ∧ Out w w' ∧ flat X = [x] ∧ x.f = 16 ∧ x.d = [1, 2, 3] := by
  rcases h with ⟨_, _, k, r, F, E, hk, hr, hno⟩ | ⟨s, v1, v2, X, Y, he, hsp, ho, hr⟩
  · exfalso
    have hk0 : k = 0 := by
      have := (List.getElem?_eq_some_iff.1 hk).1
      simp at this; exact this
    subst hk0
    simp at hk
    subst hk
    simp at hr
    have hne : F = [] ∧ E = [] := by
      generalize hL2 : ([] : List RI) = L at hr
      cases hr with
      | nil => exact ⟨rfl, rfl⟩
      | addE L _ _ _ _ _ _ _ _ _ _ _ => cases L <;> simp at hL2
      | addF L _ _ _ _ _ _ _ _ _ _ _ => cases L <;> simp at hL2
    obtain ⟨rfl, rfl⟩ := hne
    revert hno
    simp [noP, rA, mayR, clP, upF]
  · obtain ⟨x, h1, h2, h3, h4⟩ := run_one hr (by simp [rA])
    exact ⟨s, v1, v2, X, Y, x, he, hsp, ho, h1, h3, h4⟩
theorem acP_awake {x : Rg} (hf : x.f = 16) (hd : x.d.length = 3) (n : Nat) (hn : n ≤ 2) : acP [x] 17 n = some (x, 1) := by
  have hu : upF [x] 17 = some x := upF_some (P := []) (Q := []) (by omega) (by simp)
  unfold acP
  rw [hu]
  simp only
  rw [hf, hd, if_pos (by omega)]
set_option maxHeartbeats 2000000 in
set_option maxRecDepth 100000 in
theorem awake_any (w : World) : Calls Try.prog 6 #[] w fun e w' => e = .returned (.bool true) ∧ Out w w' := by
  obtain ⟨wA, HA, bA, cA0, cA1, oA⟩ : ∃ wA, Hid (wA = (w.alloc (.cells #[.int .u8 1, .int .u8 2, .int .u8 3] 5)).alloc (.cells #[.int .u64 16, .slice (some ⟨w.heap.size, 0, none⟩) 3 3] 39)) ∧ wA.heap[w.heap.size]? = some (.cells #[.int .u8 1, .int .u8 2, .int .u8 3] 5 (0, 0)) ∧ wA.cell? ⟨w.heap.size + 1, 0, none⟩ = some (.int .u64 16) ∧ wA.cell? ⟨w.heap.size + 1, 1, none⟩ = some (.slice (some ⟨w.heap.size, 0, none⟩) 3 3) ∧ Out w wA := by
    refine ⟨_, rfl, blk_out (heap_alloc_new w _) ((Out.refl _).alloc _), ?_, ?_, ((Out.refl w).alloc _).alloc _⟩
    · rw [cell_fresh _ _ _ 0 _ (size_alloc w _).symm]; rfl
    · rw [cell_fresh _ _ _ 1 _ (size_alloc w _).symm]; rfl
  have hin : InR wA (some ⟨w.heap.size + 1, 0, none⟩) [rA w.heap.size] := .inr ⟨w.heap.size + 1, 0, rfl, fun i x hx => by
    have hi : i = 0 := by
      have := (List.getElem?_eq_some_iff.1 hx).1
      simp at this; exact this
    subst hi
    simp at hx
    subst hx
    refine ⟨cA0, cA1, .inr ⟨⟨w.heap.size, 0, none⟩, rfl, fun j u hj => ?_⟩⟩
    rw [add_B, Nat.zero_add, cell_B bA]
    rw [← hj]
    match j with
    | 0 => rfl
    | 1 => rfl
    | 2 => rfl
    | j + 3 => rfl⟩
  have NW := hidOf (New_any wA (some ⟨w.heap.size + 1, 0, none⟩) 1 [rA w.heap.size] hin (by intro x hx; simp at hx; subst hx; exact ⟨by show (16 : Nat) < 18446744073709551616; decide, by show (3 : Nat) ≤ 140737488355328; decide⟩) (by show (1 : Nat) ≤ 5864062014000; decide))
  have OA := hidOf oA
  clear bA cA0 cA1 oA hin
  go_enter Try.func6, Try.ntmps6
  go_upto_region 2 with (go_at_call 4; rw [← HA.out]; refine NW.out.mono ?_; intro e w1 hne; obtain ⟨s, v1, v2, X, Y, x, rfl, hsp, ho1, hX, hxf, hxd⟩ := new_awake hne; have SP := hidOf hsp; have O1 := hidOf ho1; have HX := hidOf hX; have HF := hidOf hxf; have HD := hidOf hxd; clear hne hsp ho1 hX hxf hxd)
  have SC : Hid (Calls Try.prog 8 #[.pointer (some ⟨s, 0, none⟩), .int .u64 17, .int .i64 16, .int .u64 1541] w1 fun e w' => e = .returned (.int .i64 0) ∧ SpD wA.heap.size w' s v1 v2 (updX 16 [1, 5, 6] X) Y 1 ∧ Chg (dbs (flat X ++ flat Y)) w1 w') := hidOf (by
    refine (Store_any w1 wA.heap.size s v1 v2 X Y 1 17 1541 16 SP.out (by decide) (by decide)).mono ?_
    have hacc : acP (flat X) 17 (widN 16) = some (x, 1) := by rw [HX.out]; exact acP_awake HF.out (by rw [HD.out]; rfl) 2 (by decide)
    rintro e w' (⟨h9, _⟩ | ⟨y, o, h9, he, hsp, hc⟩)
    · rw [hacc] at h9; cases h9
    · rw [hacc] at h9
      cases h9
      refine ⟨he, ?_, hc⟩
      have e1 : layL x.d 1 (bysN 1541 (widN 16)) = [1, 5, 6] := by rw [HD.out]; decide
      rw [HF.out, e1] at hsp
      exact hsp)
  go_upto_region 5 with (go_at_call 8; refine SC.out.mono ?_; rintro e w2 ⟨rfl, hsp2, hc2⟩; have SP2 := hidOf hsp2; have C2 := hidOf hc2; clear hsp2 hc2)
  have LC : Hid (Calls Try.prog 9 #[.pointer (some ⟨s, 0, none⟩), .int .u64 17, .int .i64 8] w2 fun e w' => e = .returned (.tuple #[.int .u64 5, .int .i64 0]) ∧ Out w2 w') := hidOf (by
    refine (Load_any w2 wA.heap.size s v1 v2 (updX 16 [1, 5, 6] X) Y 1 17 8 SP2.out (by decide)).mono ?_
    have hfl : flat (updX 16 [1, 5, 6] X) = [{ x with d := [1, 5, 6] }] := by
      rw [flat_updX, HX.out]
      simp [updR, HF.out]
    have hlp : LoadP (flat (updX 16 [1, 5, 6] X)) 17 (widN 8) = (5, 0) := by
      rw [hfl, LoadP, show widN 8 = 1 from rfl, acP_awake (x := { x with d := [1, 5, 6] }) HF.out rfl 1 (by decide)]
      rfl
    rw [hlp]
    rintro e w' ⟨he, ho⟩
    exact ⟨he, ho⟩)
  go_wp2_with (go_at_call 9; refine LC.out.mono ?_; rintro e w3 ⟨rfl, ho3⟩; have O3 := hidOf ho3; clear ho3)
  go_ret
  have hOw2 : Out wA w2 := Chg.out C2.out O1.out (fun k hk => by
    obtain ⟨z, hz, hb⟩ := hk
    exact (DaI.blk (SP.out.da z hz) hb).1)
  exact ⟨by simp, (OA.out.trans hOw2).trans O3.out⟩
end Go.Proofs.Ytigdlgpkepledaa
