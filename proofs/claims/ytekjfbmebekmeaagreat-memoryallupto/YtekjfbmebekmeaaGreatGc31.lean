import Derived.Test.YtekjfbmebekmeaaGreatGc29
import Derived.Test.YtekjfbmebekmeaaGreatGc30
import Derived.Test.YtekjfbmebekmeaaGreatGc16
import Derived.Test.YtekjfbmebekmeaaGreatGc18
import Derived.Test.YtekjfbmebekmeaaGreatGc19
namespace Go.Proofs.YtekjfbmebekmeaaGreat
open Go.RowKit
theorem open_any (w : World) (a : Option Addr) (c : Nat) (L : List RI) (h : InR w a L) (hL : ∀ x ∈ L, x.f < 18446744073709551616 ∧ x.d.length ≤ 1000000000) (hn : L.length ≤ 1000000000) :
    Calls Tryz.prog 6 #[.slice a L.length c] w fun e w' => OpenE L L.length w e w' := by
  by_cases hok : okQ (L.map fdI)
  · exact open_ok w a c L h hL hn hok
  · exact open_not w a c L h hL hn hok
end Go.Proofs.YtekjfbmebekmeaaGreat
namespace Go.Proofs.YtekjfbmebekmeaaGreat
open Go.RowKit
set_option linter.unusedVariables false
set_option linter.unusedSimpArgs false
/-- how many bytes a width has -/
def widN (w : Int) : Nat := if w = 8 then 1 else if w = 16 then 2 else if w = 32 then 4 else 8
theorem StoreE.mod {B s : Nat} {v1 v2 : Value} {X Y : List Rw} {m at_ n x q : Nat} {w w' : World} {e : Ending} (h : StoreE B s v1 v2 X Y m at_ n q w e w') (hq : q = x % 2 ^ (8 * n)) : StoreE B s v1 v2 X Y m at_ n x w e w' := by
  subst hq
  unfold StoreE at h ⊢
  rw [bysN_mod x n n (Nat.le_refl _)] at h
  exact h
set_option maxHeartbeats 2000000 in
theorem Load_any (w : World) (B s : Nat) (v1 v2 : Value) (X Y : List Rw) (m at_ : Nat) (wd : Int) (h : SpD B w s v1 v2 X Y m) (ha : at_ < 18446744073709551616) :
    Calls Tryz.prog 28 #[.pointer (some ⟨s, 0, none⟩), .int .u64 at_, .int .i64 wd] w fun e w' => e = .returned (.tuple #[.int .u64 ((LoadP (flat X) at_ (widN wd)).1 : Nat), .int .i64 (LoadP (flat X) at_ (widN wd)).2]) ∧ Out w w' := by
  by_cases h8 : wd = 8
  · subst h8
    have hwd : widN 8 = 1 := rfl
    have C := hidOf (load8_any w B s v1 v2 X Y m at_ h ha)
    rw [hwd]
    generalize (LoadP (flat X) at_ 1).1 = q at *
    generalize (LoadP (flat X) at_ 1).2 = e2 at *
    clear h hwd
    go_enter Tryz.func28, Tryz.ntmps28
    go_wp2_with (go_at_call 59; refine C.out.mono ?_; rintro e w1 ⟨rfl, ho1⟩; have O1 := hidOf ho1; clear ho1)
    refine bodyPost_ret (results_tmp2 rfl _ _ _) rfl ?_
    exact ⟨rfl, O1.out⟩
  · by_cases h16 : wd = 16
    · subst h16
      have hwd : widN 16 = 2 := rfl
      have C := hidOf (load16_any w B s v1 v2 X Y m at_ h ha)
      rw [hwd]
      generalize (LoadP (flat X) at_ 2).1 = q at *
      generalize (LoadP (flat X) at_ 2).2 = e2 at *
      clear h hwd
      go_enter Tryz.func28, Tryz.ntmps28
      go_wp2_with (go_at_call 60; refine C.out.mono ?_; rintro e w1 ⟨rfl, ho1⟩; have O1 := hidOf ho1; clear ho1)
      refine bodyPost_ret (results_tmp2 rfl _ _ _) rfl ?_
      exact ⟨rfl, O1.out⟩
    · by_cases h32 : wd = 32
      · subst h32
        have hwd : widN 32 = 4 := rfl
        have C := hidOf (load32_any w B s v1 v2 X Y m at_ h ha)
        rw [hwd]
        generalize (LoadP (flat X) at_ 4).1 = q at *
        generalize (LoadP (flat X) at_ 4).2 = e2 at *
        clear h hwd
        go_enter Tryz.func28, Tryz.ntmps28
        go_wp2_with (go_at_call 61; refine C.out.mono ?_; rintro e w1 ⟨rfl, ho1⟩; have O1 := hidOf ho1; clear ho1)
        refine bodyPost_ret (results_tmp2 rfl _ _ _) rfl ?_
        exact ⟨rfl, O1.out⟩
      · have hwd : widN wd = 8 := by simp [widN, h8, h16, h32]
        have e8 : (wd == 8) = false := by simpa using h8
        have e16 : (wd == 16) = false := by simpa using h16
        have e32 : (wd == 32) = false := by simpa using h32
        have C := hidOf (load64_any w B s v1 v2 X Y m at_ h ha)
        rw [hwd]
        generalize (LoadP (flat X) at_ 8).1 = q at *
        generalize (LoadP (flat X) at_ 8).2 = e2 at *
        clear h hwd
        go_enter Tryz.func28, Tryz.ntmps28
        go_wp2_with (go_at_call 62; refine C.out.mono ?_; rintro e w1 ⟨rfl, ho1⟩; have O1 := hidOf ho1; clear ho1)
        refine bodyPost_ret (results_tmp2 rfl _ _ _) rfl ?_
        exact ⟨rfl, O1.out⟩
set_option maxHeartbeats 2000000 in
theorem Store_any (w : World) (B s : Nat) (v1 v2 : Value) (X Y : List Rw) (m at_ x : Nat) (wd : Int) (h : SpD B w s v1 v2 X Y m) (ha : at_ < 18446744073709551616) (hx : x < 18446744073709551616) :
    Calls Tryz.prog 30 #[.pointer (some ⟨s, 0, none⟩), .int .u64 at_, .int .i64 wd, .int .u64 x] w fun e w' => StoreE B s v1 v2 X Y m at_ (widN wd) x w e w' := by
  by_cases h8 : wd = 8
  · subst h8
    have hwd : widN 8 = 1 := rfl
    have C := store8_any w B s v1 v2 X Y m at_ (x % 256) h ha (by omega)
    rw [show ((x % 256 : Nat) : Int) = (x : Int) % 256 by omega] at C
    have C := hidOf C
    rw [hwd]
    clear h hwd
    go_enter Tryz.func30, Tryz.ntmps30
    go_wp2_with (go_at_call 63; refine C.out.mono ?_; intro e w1 hst; obtain ⟨r1, hr1⟩ : ∃ r1, e = .returned (.int .i64 r1) := (by rcases hst with ⟨_, h9, _⟩ | ⟨_, _, _, h9, _⟩; exact ⟨_, h9⟩; exact ⟨_, h9⟩); subst hr1; have HST := hidOf hst; clear hst)
    go_ret
    exact HST.out.mod (by rfl)
  · by_cases h16 : wd = 16
    · subst h16
      have hwd : widN 16 = 2 := rfl
      have C := store16_any w B s v1 v2 X Y m at_ (x % 65536) h ha (by omega)
      rw [show ((x % 65536 : Nat) : Int) = (x : Int) % 65536 by omega] at C
      have C := hidOf C
      rw [hwd]
      clear h hwd
      go_enter Tryz.func30, Tryz.ntmps30
      go_wp2_with (go_at_call 64; refine C.out.mono ?_; intro e w1 hst; obtain ⟨r1, hr1⟩ : ∃ r1, e = .returned (.int .i64 r1) := (by rcases hst with ⟨_, h9, _⟩ | ⟨_, _, _, h9, _⟩; exact ⟨_, h9⟩; exact ⟨_, h9⟩); subst hr1; have HST := hidOf hst; clear hst)
      go_ret
      exact HST.out.mod (by rfl)
    · by_cases h32 : wd = 32
      · subst h32
        have hwd : widN 32 = 4 := rfl
        have C := store32_any w B s v1 v2 X Y m at_ (x % 4294967296) h ha (by omega)
        rw [show ((x % 4294967296 : Nat) : Int) = (x : Int) % 4294967296 by omega] at C
        have C := hidOf C
        rw [hwd]
        clear h hwd
        go_enter Tryz.func30, Tryz.ntmps30
        go_wp2_with (go_at_call 65; refine C.out.mono ?_; intro e w1 hst; obtain ⟨r1, hr1⟩ : ∃ r1, e = .returned (.int .i64 r1) := (by rcases hst with ⟨_, h9, _⟩ | ⟨_, _, _, h9, _⟩; exact ⟨_, h9⟩; exact ⟨_, h9⟩); subst hr1; have HST := hidOf hst; clear hst)
        go_ret
        exact HST.out.mod (by rfl)
      · have hwd : widN wd = 8 := by simp [widN, h8, h16, h32]
        have e8 : (wd == 8) = false := by simpa using h8
        have e16 : (wd == 16) = false := by simpa using h16
        have e32 : (wd == 32) = false := by simpa using h32
        have C := store64_any w B s v1 v2 X Y m at_ (x) h ha (by omega)
        have C := hidOf C
        rw [hwd]
        clear h hwd
        go_enter Tryz.func30, Tryz.ntmps30
        go_wp2_with (go_at_call 66; refine C.out.mono ?_; intro e w1 hst; obtain ⟨r1, hr1⟩ : ∃ r1, e = .returned (.int .i64 r1) := (by rcases hst with ⟨_, h9, _⟩ | ⟨_, _, _, h9, _⟩; exact ⟨_, h9⟩; exact ⟨_, h9⟩); subst hr1; have HST := hidOf hst; clear hst)
        go_ret
        exact HST.out.mod (by show x = x % 18446744073709551616; omega)
end Go.Proofs.YtekjfbmebekmeaaGreat
namespace Go.Proofs.YtekjfbmebekmeaaGreat
open Go.RowKit
set_option linter.unusedVariables false
set_option linter.unusedSimpArgs false
theorem run_one {r : RI} {F E : List Rg} (h : Run [r] F E) (hd : ¬ r.d = []) : ∃ x, F = [x] ∧ E = [] ∧ x.f = r.f ∧ x.d = r.d := by
  generalize hL : [r] = L at h
  cases h with
  | nil => cases hL
  | addE L F E E' r' x h1 h2 h3 h4 h5 h6 =>
    have : L = [] ∧ r = r' := by
      cases L with
      | nil => simp at hL; exact ⟨rfl, hL⟩
      | cons a L => simp at hL
    obtain ⟨rfl, rfl⟩ := this
    exact absurd h3 hd
  | addF L F E F' r' x h1 h2 h3 h4 h5 h6 =>
    have : L = [] ∧ r = r' := by
      cases L with
      | nil => simp at hL; exact ⟨rfl, hL⟩
      | cons a L => simp at hL
    obtain ⟨rfl, rfl⟩ := this
    have hne : F = [] ∧ E = [] := by
      generalize hL2 : ([] : List RI) = L at h1
      cases h1 with
      | nil => exact ⟨rfl, rfl⟩
      | addE L _ _ _ _ _ _ _ _ _ _ _ => cases L <;> simp at hL2
      | addF L _ _ _ _ _ _ _ _ _ _ _ => cases L <;> simp at hL2
    obtain ⟨rfl, rfl⟩ := hne
    obtain ⟨P, Q, e1, e2, _, _⟩ := h6
    obtain ⟨rfl, rfl⟩ := List.append_eq_nil_iff.1 e1.symm
    exact ⟨x, e2, rfl, h4, h5⟩
def rA (q : Nat) : RI := ⟨16, some ⟨q, 0, none⟩, 3, [1, 2, 3]⟩
theorem new_awake {w w' : World} {q : Nat} {e : Ending} (h : NewE [rA q] w e w') : ∃ s v1 v2 X Y x, e = .returned (.tuple #[.pointer (some ⟨s, 0, none⟩), .int .i64 0]) ∧ SpD w.heap.size w' s v1 v2 X Y 1 ∧ Out w w' ∧ flat X = [x] ∧ x.f = 16 ∧ x.d = [1, 2, 3] := by
  rcases h with ⟨_, _, k, r, F, E, hk, hr, hno⟩ | ⟨s, v1, v2, X, Y, he, hsp, ho, hr⟩
  · exfalso
    have hk0 : k = 0 := by
      have := (List.getElem?_eq_some_iff.1 hk).1
      simp at this; exact this
    subst hk0
    simp at hk
    subst hk
    simp at hr
    have hne : F = [] ∧ E = [] := by
      generalize hL2 : ([] : List RI) = L at hr
      cases hr with
      | nil => exact ⟨rfl, rfl⟩
      | addE L _ _ _ _ _ _ _ _ _ _ _ => cases L <;> simp at hL2
      | addF L _ _ _ _ _ _ _ _ _ _ _ => cases L <;> simp at hL2
    obtain ⟨rfl, rfl⟩ := hne
    revert hno
    simp [noP, rA, mayR, clP, upF]
  · obtain ⟨x, h1, h2, h3, h4⟩ := run_one hr (by simp [rA])
    exact ⟨s, v1, v2, X, Y, x, he, hsp, ho, h1, h3, h4⟩
theorem acP_awake {x : Rg} (hf : x.f = 16) (hd : x.d.length = 3) (n : Nat) (hn : n ≤ 2) : acP [x] 17 n = some (x, 1) := by
  have hu : upF [x] 17 = some x := upF_some (P := []) (Q := []) (by omega) (by simp)
  unfold acP
  rw [hu]
  simp only
  rw [hf, hd, if_pos (by omega)]
set_option maxHeartbeats 2000000 in
set_option maxRecDepth 100000 in
theorem awake_any (w : World) : Calls Tryz.prog 9 #[] w fun e w' => e = .returned (.bool true) ∧ Out w w' := by
  obtain ⟨wA, HA, bA, cA0, cA1, oA⟩ : ∃ wA, Hid (wA = (w.alloc (.cells #[.int .u8 1, .int .u8 2, .int .u8 3] 5)).alloc (.cells #[.int .u64 16, .slice (some ⟨w.heap.size, 0, none⟩) 3 3] 36)) ∧ wA.heap[w.heap.size]? = some (.cells #[.int .u8 1, .int .u8 2, .int .u8 3] 5 (0, 0)) ∧ wA.cell? ⟨w.heap.size + 1, 0, none⟩ = some (.int .u64 16) ∧ wA.cell? ⟨w.heap.size + 1, 1, none⟩ = some (.slice (some ⟨w.heap.size, 0, none⟩) 3 3) ∧ Out w wA := by
    refine ⟨_, rfl, blk_out (heap_alloc_new w _) ((Out.refl _).alloc _), ?_, ?_, ((Out.refl w).alloc _).alloc _⟩
    · rw [cell_fresh _ _ _ 0 _ (size_alloc w _).symm]; rfl
    · rw [cell_fresh _ _ _ 1 _ (size_alloc w _).symm]; rfl
  have hin : InR wA (some ⟨w.heap.size + 1, 0, none⟩) [rA w.heap.size] := .inr ⟨w.heap.size + 1, 0, rfl, fun i x hx => by
    have hi : i = 0 := by
      have := (List.getElem?_eq_some_iff.1 hx).1
      simp at this; exact this
    subst hi
    simp at hx
    subst hx
    refine ⟨cA0, cA1, .inr ⟨⟨w.heap.size, 0, none⟩, rfl, fun j u hj => ?_⟩⟩
    rw [add_B, Nat.zero_add, cell_B bA]
    rw [← hj]
    match j with
    | 0 => rfl
    | 1 => rfl
    | 2 => rfl
    | j + 3 => rfl⟩
  have NW := hidOf (New_any wA (some ⟨w.heap.size + 1, 0, none⟩) 1 [rA w.heap.size] hin (by intro x hx; simp at hx; subst hx; exact ⟨by show (16 : Nat) < 18446744073709551616; decide, by show (3 : Nat) ≤ 140737488355328; decide⟩) (by show (1 : Nat) ≤ 5864062014000; decide))
  have OA := hidOf oA
  clear bA cA0 cA1 oA hin
  go_enter Tryz.func9, Tryz.ntmps9
  go_upto_region 2 with (go_at_call 16; rw [← HA.out]; refine NW.out.mono ?_; intro e w1 hne; obtain ⟨s, v1, v2, X, Y, x, rfl, hsp, ho1, hX, hxf, hxd⟩ := new_awake hne; have SP := hidOf hsp; have O1 := hidOf ho1; have HX := hidOf hX; have HF := hidOf hxf; have HD := hidOf hxd; clear hne hsp ho1 hX hxf hxd)
  have SC : Hid (Calls Tryz.prog 30 #[.pointer (some ⟨s, 0, none⟩), .int .u64 17, .int .i64 16, .int .u64 1541] w1 fun e w' => e = .returned (.int .i64 0) ∧ SpD wA.heap.size w' s v1 v2 (updX 16 [1, 5, 6] X) Y 1 ∧ Chg (dbs (flat X ++ flat Y)) w1 w') := hidOf (by
    refine (Store_any w1 wA.heap.size s v1 v2 X Y 1 17 1541 16 SP.out (by decide) (by decide)).mono ?_
    have hacc : acP (flat X) 17 (widN 16) = some (x, 1) := by rw [HX.out]; exact acP_awake HF.out (by rw [HD.out]; rfl) 2 (by decide)
    rintro e w' (⟨h9, _⟩ | ⟨y, o, h9, he, hsp, hc⟩)
    · rw [hacc] at h9; cases h9
    · rw [hacc] at h9
      cases h9
      refine ⟨he, ?_, hc⟩
      have e1 : layL x.d 1 (bysN 1541 (widN 16)) = [1, 5, 6] := by rw [HD.out]; decide
      rw [HF.out, e1] at hsp
      exact hsp)
  go_upto_region 5 with (go_at_call 30; refine SC.out.mono ?_; rintro e w2 ⟨rfl, hsp2, hc2⟩; have SP2 := hidOf hsp2; have C2 := hidOf hc2; clear hsp2 hc2)
  have LC : Hid (Calls Tryz.prog 28 #[.pointer (some ⟨s, 0, none⟩), .int .u64 17, .int .i64 8] w2 fun e w' => e = .returned (.tuple #[.int .u64 5, .int .i64 0]) ∧ Out w2 w') := hidOf (by
    refine (Load_any w2 wA.heap.size s v1 v2 (updX 16 [1, 5, 6] X) Y 1 17 8 SP2.out (by decide)).mono ?_
    have hfl : flat (updX 16 [1, 5, 6] X) = [{ x with d := [1, 5, 6] }] := by
      rw [flat_updX, HX.out]
      simp [updR, HF.out]
    have hlp : LoadP (flat (updX 16 [1, 5, 6] X)) 17 (widN 8) = (5, 0) := by
      rw [hfl, LoadP, show widN 8 = 1 from rfl, acP_awake (x := { x with d := [1, 5, 6] }) HF.out rfl 1 (by decide)]
      rfl
    rw [hlp]
    rintro e w' ⟨he, ho⟩
    exact ⟨he, ho⟩)
  go_wp2_with (go_at_call 28; refine LC.out.mono ?_; rintro e w3 ⟨rfl, ho3⟩; have O3 := hidOf ho3; clear ho3)
  go_ret
  have hOw2 : Out wA w2 := Chg.out C2.out O1.out (fun k hk => by
    obtain ⟨z, hz, hb⟩ := hk
    exact (DaI.blk (SP.out.da z hz) hb).1)
  exact ⟨by simp, (OA.out.trans hOw2).trans O3.out⟩
end Go.Proofs.YtekjfbmebekmeaaGreat
namespace Go.Proofs.YtekjfbmebekmeaaGreat
open Go.RowKit
set_option linter.unusedVariables false
set_option linter.unusedSimpArgs false
end Go.Proofs.YtekjfbmebekmeaaGreat
namespace Go.Proofs.YtekjfbmebekmeaaGreat
open Go.RowKit
set_option linter.unusedVariables false
set_option linter.unusedSimpArgs false
theorem heldP_fd (M : List Rg) (at_ k : Nat) : heldP M at_ k = (M.map fdR).any fun p => decide (k ≤ p.2.length) && decide (p.1 ≤ at_) && decide (at_ - p.1 ≤ p.2.length - k) := by
  unfold heldP
  rw [List.any_map]
  rfl
theorem held_told {F E R : List Rg} (h : SpOk F E) (hp : (R.map fdR).Perm ((F ++ E).map fdR)) (at_ k : Nat) (hk : 0 < k) : heldP R at_ k = (acP F at_ k).isSome := by
  rw [heldP_fd, any_perm hp, ← heldP_fd]
  exact held_acP h (fun x => by simp) at_ k hk
/-- a told region with a byte is a filled one -/
theorem told_fill {F E R : List Rg} (h : SpOk F E) (hp : (R.map fdR).Perm ((F ++ E).map fdR)) {z : Rg} (hz : z ∈ R) (hd : 0 < z.d.length) : ∃ u ∈ F, u.f = z.f ∧ u.d = z.d := by
  have h1 : fdR z ∈ (F ++ E).map fdR := hp.mem_iff.1 (List.mem_map.2 ⟨z, hz, rfl⟩)
  obtain ⟨u, hu, e⟩ := List.mem_map.1 h1
  simp only [fdR, Prod.mk.injEq] at e
  rcases List.mem_append.1 hu with hu | hu
  · exact ⟨u, hu, e.1, e.2⟩
  · have := (h.ed u hu).1
    rw [← e.2, this] at hd
    simp at hd
/-- a byte as the store has left it -/
def wantB (st : Option (Rg × Nat)) (at_ k x a : Nat) (b : UInt8) : UInt8 := match st with | none => b | some _ => if at_ ≤ a ∧ a - at_ < k then UInt8.ofNat (x / 2 ^ (8 * (a - at_)) % 256) else b
/-- the filled ones behind a store -/
def stoF (F : List Rg) (at_ k x : Nat) : List Rg := match acP F at_ k with | none => F | some (y, o) => F.map (updR y.f (layL y.d o (bysN x k)))
theorem stoF_ok {F E : List Rg} (h : SpOk F E) (at_ k x : Nat) : SpOk (stoF F at_ k x) E := by
  unfold stoF
  cases hacc : acP F at_ k with
  | none => exact h
  | some p =>
    obtain ⟨y, o⟩ := p
    obtain ⟨h1, h2, h3, h4⟩ := acP_some h.sf hacc
    refine h.upd y.f _ (fun z hz e => ?_)
    rw [srt_one h.sf hz h1 e]
    exact layL_len _ _ _ (by rw [bysN_len]; omega)
/-- what is told ahead of a store and behind it, region by region -/
theorem told_two {F E R1 R2 : List Rg} (h : SpOk F E) (at_ k x : Nat) (s1 : Srt R1) (s2 : Srt R2) (p1 : (R1.map fdR).Perm ((F ++ E).map fdR)) (p2 : (R2.map fdR).Perm ((stoF F at_ k x ++ E).map fdR)) :
    R1.length = R2.length ∧ ∀ (i : Nat) (z1 z2 : Rg), R1[i]? = some z1 → R2[i]? = some z2 → z1.f = z2.f ∧ z1.d.length = z2.d.length ∧ z1.f + z1.d.length ≤ 18446744073709551616 ∧ ∀ j b, z1.d[j]? = some b → z2.d[j]? = some (wantB (acP F at_ k) at_ k x (z1.f + j) b) ∧ LoadP (stoF F at_ k x) (z1.f + j) 1 = ((wantB (acP F at_ k) at_ k x (z1.f + j) b).toNat, 0) := by
  have key : ∀ (G : List Rg), SpOk G E → ∀ (z2 : Rg), (∃ u ∈ G, u.f = z2.f ∧ u.d = z2.d) → ∀ j (c : UInt8), z2.d[j]? = some c → LoadP G (z2.f + j) 1 = (c.toNat, 0) := fun G hG z2 ⟨u, hu, e1, e2⟩ j c hc => by
    have hj := (List.getElem?_eq_some_iff.1 hc).1
    rw [← e1, LoadP, acP_in hG hu (o := j) (n := 1) (by rw [e2]; exact hj) (by rw [e2]; omega)]
    simp only
    rw [e2]
    have e3 : (z2.d.drop j).take 1 = [c] := by
      obtain ⟨h1, h2⟩ := List.getElem?_eq_some_iff.1 hc
      rw [List.drop_eq_getElem_cons h1, h2]
      rfl
    rw [e3]
    simp [numL]
  have bnd : ∀ z1 ∈ R1, z1.f + z1.d.length ≤ 18446744073709551616 := fun z1 hz => by
    by_cases hd : 0 < z1.d.length
    · obtain ⟨u, hu, e1, e2⟩ := told_fill h p1 hz hd
      have := (h.fd u hu).2
      rw [e1, e2] at this
      exact this
    · have h1 : fdR z1 ∈ (F ++ E).map fdR := p1.mem_iff.1 (List.mem_map.2 ⟨z1, hz, rfl⟩)
      obtain ⟨u, hu, e⟩ := List.mem_map.1 h1
      simp only [fdR, Prod.mk.injEq] at e
      rcases List.mem_append.1 hu with hu | hu
      · have := (h.fd u hu).2; rw [e.1, e.2] at this; exact this
      · have := (h.ed u hu).2; rw [e.1] at this; omega
  have hok2 := stoF_ok h at_ k x
  unfold stoF at p2 hok2 ⊢
  cases hacc : acP F at_ k with
  | none =>
    rw [hacc] at p2 hok2
    simp only at p2 hok2 ⊢
    have he := sorted_eq _ _ (srt_fd s1) (srt_fd s2) (p1.trans p2.symm)
    have hl : R1.length = R2.length := by simpa using congrArg List.length he
    refine ⟨hl, fun i z1 z2 hz1 hz2 => ?_⟩
    have e : fdR z1 = fdR z2 := by
      have h1 : (R1.map fdR)[i]? = some (fdR z1) := by rw [List.getElem?_map, hz1]; rfl
      have h2 : (R2.map fdR)[i]? = some (fdR z2) := by rw [List.getElem?_map, hz2]; rfl
      rw [he, h2] at h1
      exact (Option.some.inj h1).symm
    simp only [fdR, Prod.mk.injEq] at e
    refine ⟨e.1, by rw [e.2], bnd z1 (List.mem_of_getElem? hz1), fun j b hb => ⟨by rw [← e.2]; exact hb, ?_⟩⟩
    exact key F h z1 (told_fill h p1 (List.mem_of_getElem? hz1) (Nat.lt_of_le_of_lt (Nat.zero_le _) (List.getElem?_eq_some_iff.1 hb).1)) j b hb
  | some p =>
    obtain ⟨y, o⟩ := p
    rw [hacc] at p2 hok2
    simp only at p2 hok2 ⊢
    obtain ⟨h1, h2, h3, h4⟩ := acP_some h.sf hacc
    have hll : (layL y.d o (bysN x k)).length = y.d.length := layL_len _ _ _ (by rw [bysN_len]; omega)
    have hmap : (F.map (updR y.f (layL y.d o (bysN x k))) ++ E).map fdR = ((F ++ E).map fdR).map (updP y.f (layL y.d o (bysN x k))) := by
      rw [List.map_append, List.map_append, List.map_append, List.map_map, List.map_map, List.map_map]
      congr 1
      · apply List.map_congr_left
        intro z _
        exact fd_upd _ _ z
      · apply List.map_congr_left
        intro z hz
        have := h.ne y h1 z hz
        show fdR z = updP y.f _ (fdR z)
        unfold updP
        rw [if_neg (show ¬ (fdR z).1 = y.f from fun e => this e.symm)]
    rw [hmap] at p2
    have hs : ((R1.map fdR).map (updP y.f (layL y.d o (bysN x k)))).Pairwise (fun a b => a.1 < b.1) := by
      rw [List.pairwise_map]
      exact (srt_fd s1).imp (fun {a b} hab => by
        have e1 : ∀ p, (updP y.f (layL y.d o (bysN x k)) p).1 = p.1 := fun p => by unfold updP; split <;> rfl
        rw [e1, e1]; exact hab)
    have he := sorted_eq _ _ hs (srt_fd s2) ((p1.map _).trans p2.symm)
    have hl : R1.length = R2.length := by simpa using congrArg List.length he
    refine ⟨hl, fun i z1 z2 hz1 hz2 => ?_⟩
    have e : updP y.f (layL y.d o (bysN x k)) (fdR z1) = fdR z2 := by
      have h1 : ((R1.map fdR).map (updP y.f (layL y.d o (bysN x k))))[i]? = some (updP y.f (layL y.d o (bysN x k)) (fdR z1)) := by rw [List.getElem?_map, List.getElem?_map, hz1]; rfl
      have h2 : (R2.map fdR)[i]? = some (fdR z2) := by rw [List.getElem?_map, hz2]; rfl
      rw [he, h2] at h1
      exact (Option.some.inj h1).symm
    have hz1m := List.mem_of_getElem? hz1
    by_cases hf : z1.f = y.f
    · have e2 : z2.f = z1.f ∧ z2.d = layL y.d o (bysN x k) := by
        simp only [updP, fdR, hf, if_true, Prod.mk.injEq] at e
        exact ⟨by rw [← e.1, hf], e.2.symm⟩
      have hdy : z1.d = y.d := by
        have h9 : fdR z1 ∈ (F ++ E).map fdR := p1.mem_iff.1 (List.mem_map.2 ⟨z1, hz1m, rfl⟩)
        obtain ⟨u, hu, e9⟩ := List.mem_map.1 h9
        simp only [fdR, Prod.mk.injEq] at e9
        rcases List.mem_append.1 hu with hu | hu
        · rw [← e9.2, srt_one h.sf hu h1 (e9.1.trans hf)]
        · exact absurd (e9.1.trans hf).symm (h.ne y h1 u hu)
      refine ⟨e2.1.symm, by rw [e2.2, hll, hdy], bnd z1 hz1m, fun j b hb => ?_⟩
      have hg : z2.d[j]? = some (wantB (some (y, o)) at_ k x (z1.f + j) b) := by
        rw [e2.2, layL_get _ _ _ (by rw [bysN_len]; omega), bysN_len]
        unfold wantB
        simp only
        by_cases hj : o ≤ j ∧ j < o + k
        · rw [if_pos hj, if_pos (by omega), bysN_get _ _ _ (by omega), show z1.f + j - at_ = j - o by omega]
        · rw [if_neg hj, if_neg (by omega), ← hdy]; exact hb
      refine ⟨hg, ?_⟩
      rw [← e2.1]
      exact key _ hok2 z2 ⟨updR y.f (layL y.d o (bysN x k)) y, List.mem_map.2 ⟨y, h1, rfl⟩, by rw [updR_f, e2.1, hf], by rw [e2.2]; simp [updR]⟩ j _ (by rw [e2.1]; exact hg)
    · have e2 : z2.f = z1.f ∧ z2.d = z1.d := by
        rw [show updP y.f (layL y.d o (bysN x k)) (fdR z1) = fdR z1 by unfold updP; rw [if_neg (show ¬ (fdR z1).1 = y.f from hf)]] at e
        simp only [fdR, Prod.mk.injEq] at e
        exact ⟨e.1.symm, e.2.symm⟩
      refine ⟨e2.1.symm, by rw [e2.2], bnd z1 hz1m, fun j b hb => ?_⟩
      have hjl := (List.getElem?_eq_some_iff.1 hb).1
      obtain ⟨u, hu, u1, u2⟩ := told_fill h p1 hz1m (by omega)
      have hno : ¬ (at_ ≤ z1.f + j ∧ z1.f + j - at_ < k) := fun ⟨q1, q2⟩ => by
        have a1 := acP_in h hu (o := j) (n := 1) (by rw [u2]; exact hjl) (by rw [u2]; omega)
        have a2 := acP_in h h1 (o := z1.f + j - y.f) (n := 1) (by omega) (by omega)
        rw [u1] at a1
        rw [show y.f + (z1.f + j - y.f) = z1.f + j by omega, a1] at a2
        simp only [Option.some.injEq, Prod.mk.injEq] at a2
        exact hf (by rw [← u1, a2.1])
      have hw : wantB (some (y, o)) at_ k x (z1.f + j) b = b := by unfold wantB; simp only; rw [if_neg hno]
      rw [hw]
      refine ⟨by rw [e2.2]; exact hb, ?_⟩
      rw [← e2.1]
      have hun : updR y.f (layL y.d o (bysN x k)) u = u := by unfold updR; rw [if_neg (by rw [u1]; exact hf)]
      exact key _ hok2 z2 ⟨u, List.mem_map.2 ⟨u, hu, hun⟩, by rw [u1, e2.1], by rw [u2, e2.2]⟩ j b (by rw [e2.2]; exact hb)
/-- what is loaded of a store -/
theorem load_back {F E : List Rg} (h : SpOk F E) (at_ k x : Nat) (hk : 0 < k) (hx : x < 2 ^ (8 * k)) : LoadP (stoF F at_ k x) at_ k = if (acP F at_ k).isSome then (x, 0) else (0, 200) := by
  unfold stoF
  cases hacc : acP F at_ k with
  | none => simp [LoadP, hacc]
  | some p =>
    obtain ⟨y, o⟩ := p
    simp only
    obtain ⟨h1, h2, h3, h4⟩ := acP_some h.sf hacc
    have hll : (layL y.d o (bysN x k)).length = y.d.length := layL_len _ _ _ (by rw [bysN_len]; omega)
    rw [LoadP, acP_upd h y.f _ (fun z hz e => by rw [srt_one h.sf hz h1 e]; exact hll), hacc]
    simp only [Option.map_some, Option.isSome_some, if_true]
    have e1 : (updR y.f (layL y.d o (bysN x k)) y).d = layL y.d o (bysN x k) := by simp [updR]
    rw [e1]
    have := layL_in y.d o (bysN x k) (by rw [bysN_len]; omega)
    rw [bysN_len] at this
    rw [this, numL_bys, Nat.mod_eq_of_lt hx]
end Go.Proofs.YtekjfbmebekmeaaGreat
