import Derived.Test.YtekjfbmebekmeaaGreatMbx
namespace Go.Proofs.YtekjfbmebekmeaaGreat
open Go.RowKit
set_option linter.unusedVariables false
set_option linter.unusedSimpArgs false
/-- how many bytes a width has -/
def widN (w : Int) : Nat := if w = 8 then 1 else if w = 16 then 2 else if w = 32 then 4 else 8
theorem StoreE.mod {B s : Nat} {v1 v2 : Value} {X Y : List Rw} {m at_ n x q : Nat} {w w' : World} {e : Ending} (h : StoreE B s v1 v2 X Y m at_ n q w e w') (hq : q = x % 2 ^ (8 * n)) : StoreE B s v1 v2 X Y m at_ n x w e w' := by
  subst hq
  unfold StoreE at h ⊢
  rw [bysN_mod x n n (Nat.le_refl _)] at h
  exact h
set_option maxHeartbeats 2000000 in
theorem Load_any (w : World) (B s : Nat) (v1 v2 : Value) (X Y : List Rw) (m at_ : Nat) (wd : Int) (h : SpD B w s v1 v2 X Y m) (ha : at_ < 18446744073709551616) :
    Calls Tryz.prog 28 #[.pointer (some ⟨s, 0, none⟩), .int .u64 at_, .int .i64 wd] w fun e w' => e = .returned (.tuple #[.int .u64 ((LoadP (flat X) at_ (widN wd)).1 : Nat), .int .i64 (LoadP (flat X) at_ (widN wd)).2]) ∧ Out w w' := by
  by_cases h8 : wd = 8
  · subst h8
    have hwd : widN 8 = 1 := rfl
    have C := hidOf (load8_any w B s v1 v2 X Y m at_ h ha)
    rw [hwd]
    generalize (LoadP (flat X) at_ 1).1 = q at *
    generalize (LoadP (flat X) at_ 1).2 = e2 at *
    clear h hwd
    go_enter Tryz.func28, Tryz.ntmps28
    go_wp2_with (go_at_call 59; refine C.out.mono ?_; rintro e w1 ⟨rfl, ho1⟩; have O1 := hidOf ho1; clear ho1)
    refine bodyPost_ret (results_tmp2 rfl _ _ _) rfl ?_
    exact ⟨rfl, O1.out⟩
  · by_cases h16 : wd = 16
    · subst h16
      have hwd : widN 16 = 2 := rfl
      have C := hidOf (load16_any w B s v1 v2 X Y m at_ h ha)
      rw [hwd]
      generalize (LoadP (flat X) at_ 2).1 = q at *
      generalize (LoadP (flat X) at_ 2).2 = e2 at *
      clear h hwd
      go_enter Tryz.func28, Tryz.ntmps28
      go_wp2_with (go_at_call 60; refine C.out.mono ?_; rintro e w1 ⟨rfl, ho1⟩; have O1 := hidOf ho1; clear ho1)
      refine bodyPost_ret (results_tmp2 rfl _ _ _) rfl ?_
      exact ⟨rfl, O1.out⟩
    · by_cases h32 : wd = 32
      · subst h32
        have hwd : widN 32 = 4 := rfl
        have C := hidOf (load32_any w B s v1 v2 X Y m at_ h ha)
        rw [hwd]
        generalize (LoadP (flat X) at_ 4).1 = q at *
        generalize (LoadP (flat X) at_ 4).2 = e2 at *
        clear h hwd
        go_enter Tryz.func28, Tryz.ntmps28
        go_wp2_with (go_at_call 61; refine C.out.mono ?_; rintro e w1 ⟨rfl, ho1⟩; have O1 := hidOf ho1; clear ho1)
        refine bodyPost_ret (results_tmp2 rfl _ _ _) rfl ?_
        exact ⟨rfl, O1.out⟩
      · have hwd : widN wd = 8 := by simp [widN, h8, h16, h32]
        have e8 : (wd == 8) = false := by simpa using h8
        have e16 : (wd == 16) = false := by simpa using h16
        have e32 : (wd == 32) = false := by simpa using h32
        have C := hidOf (load64_any w B s v1 v2 X Y m at_ h ha)
        rw [hwd]
        generalize (LoadP (flat X) at_ 8).1 = q at *
        generalize (LoadP (flat X) at_ 8).2 = e2 at *
        clear h hwd
        go_enter Tryz.func28, Tryz.ntmps28
        go_wp2_with (go_at_call 62; refine C.out.mono ?_; rintro e w1 ⟨rfl, ho1⟩; have O1 := hidOf ho1; clear ho1)
        refine bodyPost_ret (results_tmp2 rfl _ _ _) rfl ?_
        exact ⟨rfl, O1.out⟩
set_option maxHeartbeats 2000000 in
theorem Store_any (w : World) (B s : Nat) (v1 v2 : Value) (X Y : List Rw) (m at_ x : Nat) (wd : Int) (h : SpD B w s v1 v2 X Y m) (ha : at_ < 18446744073709551616) (hx : x < 18446744073709551616) :
    Calls Tryz.prog 30 #[.pointer (some ⟨s, 0, none⟩), .int .u64 at_, .int .i64 wd, .int .u64 x] w fun e w' => StoreE B s v1 v2 X Y m at_ (widN wd) x w e w' := by
  by_cases h8 : wd = 8
  · subst h8
    have hwd : widN 8 = 1 := rfl
    have C := store8_any w B s v1 v2 X Y m at_ (x % 256) h ha (by omega)
    rw [show ((x % 256 : Nat) : Int) = (x : Int) % 256 by omega] at C
    have C := hidOf C
    rw [hwd]
    clear h hwd
    go_enter Tryz.func30, Tryz.ntmps30
    go_wp2_with (go_at_call 63; refine C.out.mono ?_; intro e w1 hst; obtain ⟨r1, hr1⟩ : ∃ r1, e = .returned (.int .i64 r1) := (by rcases hst with ⟨_, h9, _⟩ | ⟨_, _, _, h9, _⟩; exact ⟨_, h9⟩; exact ⟨_, h9⟩); subst hr1; have HST := hidOf hst; clear hst)
    go_ret
    exact HST.out.mod (by rfl)
  · by_cases h16 : wd = 16
    · subst h16
      have hwd : widN 16 = 2 := rfl
      have C := store16_any w B s v1 v2 X Y m at_ (x % 65536) h ha (by omega)
      rw [show ((x % 65536 : Nat) : Int) = (x : Int) % 65536 by omega] at C
      have C := hidOf C
      rw [hwd]
      clear h hwd
      go_enter Tryz.func30, Tryz.ntmps30
      go_wp2_with (go_at_call 64; refine C.out.mono ?_; intro e w1 hst; obtain ⟨r1, hr1⟩ : ∃ r1, e = .returned (.int .i64 r1) := (by rcases hst with ⟨_, h9, _⟩ | ⟨_, _, _, h9, _⟩; exact ⟨_, h9⟩; exact ⟨_, h9⟩); subst hr1; have HST := hidOf hst; clear hst)
      go_ret
      exact HST.out.mod (by rfl)
    · by_cases h32 : wd = 32
      · subst h32
        have hwd : widN 32 = 4 := rfl
        have C := store32_any w B s v1 v2 X Y m at_ (x % 4294967296) h ha (by omega)
        rw [show ((x % 4294967296 : Nat) : Int) = (x : Int) % 4294967296 by omega] at C
        have C := hidOf C
        rw [hwd]
        clear h hwd
        go_enter Tryz.func30, Tryz.ntmps30
        go_wp2_with (go_at_call 65; refine C.out.mono ?_; intro e w1 hst; obtain ⟨r1, hr1⟩ : ∃ r1, e = .returned (.int .i64 r1) := (by rcases hst with ⟨_, h9, _⟩ | ⟨_, _, _, h9, _⟩; exact ⟨_, h9⟩; exact ⟨_, h9⟩); subst hr1; have HST := hidOf hst; clear hst)
        go_ret
        exact HST.out.mod (by rfl)
      · have hwd : widN wd = 8 := by simp [widN, h8, h16, h32]
        have e8 : (wd == 8) = false := by simpa using h8
        have e16 : (wd == 16) = false := by simpa using h16
        have e32 : (wd == 32) = false := by simpa using h32
        have C := store64_any w B s v1 v2 X Y m at_ (x) h ha (by omega)
        have C := hidOf C
        rw [hwd]
        clear h hwd
        go_enter Tryz.func30, Tryz.ntmps30
        go_wp2_with (go_at_call 66; refine C.out.mono ?_; intro e w1 hst; obtain ⟨r1, hr1⟩ : ∃ r1, e = .returned (.int .i64 r1) := (by rcases hst with ⟨_, h9, _⟩ | ⟨_, _, _, h9, _⟩; exact ⟨_, h9⟩; exact ⟨_, h9⟩); subst hr1; have HST := hidOf hst; clear hst)
        go_ret
        exact HST.out.mod (by show x = x % 18446744073709551616; omega)
end Go.Proofs.YtekjfbmebekmeaaGreat
