import Derived.Test.YtekjfbmebekmeaaGreatGa39
namespace Go.Proofs.YtekjfbmebekmeaaGreat
open Go.RowKit
set_option linter.unusedVariables false
set_option linter.unusedSimpArgs false
def DkW (B : Nat) (w : World) (d : Nat) (t : DkT) (m : Nat) : Prop := Dk B w d t m ∧ t.cv = .slice t.a t.n t.c ∧ (t.R.map fdR).Perm ((flat t.X ++ flat t.Y).map fdR)
theorem DkW.nm {B m d : Nat} {w : World} {t : DkT} (h : DkW B w d t m) : t.n ≤ m := by
  have h1 := h.2.2.length_eq
  have h2 := h.1.sp.nm
  have h3 := h.1.rn
  simp only [List.length_map] at h1
  omega
theorem DkW.hb {B m d : Nat} {w : World} {t : DkT} (h : DkW B w d t m) : ∀ z ∈ t.R, z.d.length ≤ 140737488355328 ∧ z.f < 18446744073709551616 := fun z hz => by
  have h1 : fdR z ∈ (flat t.X ++ flat t.Y).map fdR := h.2.2.subset (List.mem_map.2 ⟨z, hz, rfl⟩)
  obtain ⟨y, hy, ey⟩ := List.mem_map.1 h1
  simp only [fdR, Prod.mk.injEq] at ey
  rw [← ey.1, ← ey.2]
  refine ⟨h.1.sp.le y hy, ?_⟩
  rcases List.mem_append.1 hy with hy | hy
  · have := h.1.sp.ok.fd y hy; omega
  · exact (h.1.sp.ok.ed y hy).2
def BdP (P : List (Nat × List UInt8)) : Prop := ∀ p ∈ P, p.2.length ≤ 1048576
def OutS (w w' : World) (d : Nat) (t t' : DkT) (u v : Value) : Prop := ∃ (ub : List UInt8) (ua : Option Addr) (uc : Nat) (va : Option Addr) (vc : Nat) (vR : List Rg), u = .slice ua ub.length uc ∧ v = .slice va vR.length vc ∧ (u = .slice none 0 0 ∨ vR = []) ∧ w'.ownsRow w.heap.size 5 1 u ub.length (ub.map byV) ∧ RLs w.heap.size w' va vc vR.length vR ∧ vR.Pairwise (fun x y => ∀ b, x.a = some b → y.a ≠ some b) ∧ (BdP (t.R.map fdR) → ub.length ≤ 1048576 ∧ BdP (vR.map fdR)) ∧ vR.length ≤ t.n ∧ ∀ k, (u.ownBlock = some k ∨ fpR v vR k) → ¬ t'.fp d k
theorem RLs.nil (B : Nat) (w : World) : RLs B w none 0 0 [] := ⟨World.ownsRow_nil _ _ _ _, by simp⟩
theorem OutS.nil (w w' : World) (d : Nat) (t t' : DkT) : OutS w w' d t t' (.slice none 0 0) (.slice none 0 0) :=
  ⟨[], none, 0, none, 0, [], rfl, rfl, .inl rfl, World.ownsRow_nil _ _ _ _, RLs.nil _ _, List.Pairwise.nil, fun _ => ⟨Nat.zero_le _, fun p hp => by simp at hp⟩, Nat.zero_le _, fun k hk => by
    rcases hk with hk | hk | ⟨z, hz, _⟩
    · cases hk
    · cases hk
    · cases hz⟩
theorem BdP.flat {t : DkT} (h : BdP (t.R.map fdR)) (hp : (t.R.map fdR).Perm ((flat t.X ++ flat t.Y).map fdR)) {y : Rg} (hy : y ∈ flat t.X ++ flat t.Y) : y.d.length ≤ 1048576 := h (fdR y) (hp.symm.subset (List.mem_map.2 ⟨y, hy, rfl⟩))
theorem bysP_len {F : List Rg} (hs : Srt F) (hb : ∀ y ∈ F, y.d.length ≤ 1048576) (at_ : Nat) (N : Int) : (BysP F at_ N).1.length ≤ 1048576 := by
  unfold BysP
  split
  · simp
  · split
    · simp
    · cases ha : acP F at_ N.toNat with
      | none => simp
      | some p =>
        obtain ⟨y, o⟩ := p
        have := hb y (acP_some hs ha).1
        simp only [List.length_take, List.length_drop]
        omega
def ActE (B d m m' k : Nat) (t : DkT) (w : World) (e : Ending) (w' : World) : Prop := ∃ u v t', e = .returned (.tuple #[.bool true, u, v]) ∧ DkR B d m' w t w' t' ∧ t'.cv = .slice t'.a t'.n t'.c ∧ (t'.R.map fdR).Perm ((flat t'.X ++ flat t'.Y).map fdR) ∧ (BdP (t.R.map fdR) → k ≤ 1048576 → BdP (t'.R.map fdR)) ∧ OutS w w' d t t' u v
theorem RestA.own {B n c : Nat} {w : World} {a : Option Addr} {d : List UInt8} (h : w.ownsRow B 5 1 (.slice a n c) n (d.map byV)) (hn : n = d.length) : RestA w a d := by
  by_cases hl : d = []
  · exact .inl hl
  · obtain ⟨g, cc, e, _, _⟩ := h.form (by have := List.length_pos_iff.2 hl; omega)
    simp only [Value.slice.injEq] at e
    obtain ⟨rfl, _, rfl⟩ := e
    exact rest_own h 0 d (fun j x hx => by rw [Nat.zero_add]; exact hx)
set_option maxHeartbeats 8000000 in
set_option maxRecDepth 100000 in
theorem act3_any (B m d : Nat) (w : World) (t : DkT) (h : DkW B w d t m) (hm : m + 1 ≤ 1000000000) (which : Int) (at_ : Nat) (N : Int) (x k dc : Nat) (da : Option Addr) (ha : at_ < 18446744073709551616) (hN : -9223372036854775808 ≤ N ∧ N < 9223372036854775808) (hx : x < 18446744073709551616) :
    Calls Tryz.prog 8 #[.pointer (some ⟨d, 0, none⟩), actV which 3 at_ N x k dc da] w fun e w' => ActE B d m m k t w e w' := by
  unfold actV
  obtain ⟨p, hp⟩ : ∃ p, Hid (p = w.heap.size) := ⟨_, rfl⟩
  obtain ⟨w0, H0, b0, o0⟩ : ∃ w0, Hid (w0 = w.alloc (.cells #[.int .i64 which, .int .i64 3, .int .u64 at_, .int .i64 N, .int .u64 x, .slice da k dc] 31)) ∧ w0.heap[p]? = some (.cells #[.int .i64 which, .int .i64 3, .int .u64 at_, .int .i64 N, .int .u64 x, .slice da k dc] 31 (0, 0)) ∧ Out w w0 := ⟨_, rfl, by rw [hp.out]; exact heap_alloc_new w _, (Out.refl w).alloc _⟩
  have c0 : w0.cell? ⟨p, 0, none⟩ = some (.int .i64 which) := (cell_B b0 0).trans rfl
  have c1 : w0.cell? ⟨p, 1, none⟩ = some (.int .i64 3) := (cell_B b0 1).trans rfl
  have c2 : w0.cell? ⟨p, 2, none⟩ = some (.int .u64 at_) := (cell_B b0 2).trans rfl
  have c3 : w0.cell? ⟨p, 3, none⟩ = some (.int .i64 N) := (cell_B b0 3).trans rfl
  have c4 : w0.cell? ⟨p, 4, none⟩ = some (.int .u64 x) := (cell_B b0 4).trans rfl
  have c5 : w0.cell? ⟨p, 5, none⟩ = some (.slice da k dc) := (cell_B b0 5).trans rfl
  have hdk := h.1
  have cd0 : w0.cell? ⟨d, 0, none⟩ = some (.pointer (some ⟨t.s, 0, none⟩)) := cell_later o0 ((cell_B h.1.blk 0).trans rfl)
  have cd1 : w0.cell? ⟨d, 1, none⟩ = some (.slice t.a t.n t.c) := cell_later o0 ((cell_B h.1.blk 1).trans (by rw [h.2.1]; rfl))
  have hb := h.hb
  have hnm := h.nm
  have hpm := h.2.2
  have HW := hidOf h
  have O0 := hidOf o0
  have fin : Hid (∀ (W : World) (u v : Value), Out w0 W → OutS w W d t t u v → ActE B d m m k t w (.returned (.tuple #[.bool true, u, v])) W) := hidOf (fun W u v o os => ⟨u, v, t, rfl, ((DkR.start HW.out.1).out (O0.out.trans o)).mono (by omega), HW.out.2.1, HW.out.2.2, fun hq _ => hq, os⟩)
  obtain ⟨lv, hlv⟩ : ∃ lv, Hid (lv = (LoadP (flat t.X) at_ (widN N)).1) := ⟨_, rfl⟩
  obtain ⟨lf, hlf⟩ : ∃ lf, Hid (lf = (LoadP (flat t.X) at_ (widN N)).2) := ⟨_, rfl⟩
  have QC : Hid (∀ W, Out w0 W → Calls Tryz.prog 27 #[.agg #[.slice t.a t.n t.c], .int .u64 at_, .int .i64 N] W fun e w' => e = .returned (.tuple #[.int .u64 (lv : Nat), .int .i64 lf]) ∧ Out W w') := hidOf (fun W o => by
    have h9 := refLoad_any W B t.a t.c t.n t.R at_ N ((hdk.rl.out o0).out o) hdk.rn hb (by omega) ha
    rw [ldQ_eq hdk.sp.ok hpm, ← hlv.out, ← hlf.out] at h9
    exact h9)
  have MC : Hid (∀ W, Out w0 W → Calls Tryz.prog 28 #[.pointer (some ⟨t.s, 0, none⟩), .int .u64 at_, .int .i64 N] W fun e w' => e = .returned (.tuple #[.int .u64 (lv : Nat), .int .i64 lf]) ∧ Out W w') := hidOf (fun W o => by
    have h9 := Load_any W B t.s t.v1 t.v2 t.X t.Y m at_ N ((hdk.sp.out o0).out o) ha
    rw [← hlv.out, ← hlf.out] at h9
    exact h9)
  have NC := hidOf (fun x W => num20_any x W)
  clear b0 o0 h hdk hb hnm hpm
  go_enter Tryz.func8, Tryz.ntmps8
  go_upto_region 1 with fail
  rw [← hp.out]
  rw [← H0.out]
  go_upto_region 16 with fail
  refine wp_region_held_drew (S := (fun w' => w'.cell? ⟨d, 1, none⟩ = some (.slice t.a t.n t.c) ∧ w'.cell? ⟨p, 2, none⟩ = some (.int .u64 at_) ∧ w'.cell? ⟨p, 3, none⟩ = some (.int .i64 N))) (by kernel_rfl) ?_ (fun hHeld => ?_)
  · exact ⟨cd1, c2, c3⟩
  refine tkLB [0, 1, 2, 3, 4, 5, 6, 7] ?_
  iterate 8 (refine tkLC (v := ?_) rfl rfl (by kernel_rfl) (by kernel_rfl) (by kernel_rfl) (fun _ _ _ h => h) (by rfl) (by assumption) ?_ ?_; rotate_left; (· (intro w hSw; (try dsimp only at hSw); go_simp; (try with_reducible rfl))); simp only [Act.put, List.setIfInBounds_toArray, List.set_cons_zero, List.set_cons_succ])
  refine tkLE ?_
  refine wpAnyH_ready (rs := [8]) (by kernel_rfl) (by simp) ?_
  refine (AllReadyH.cons rfl (fun Ko8 hKo8 => ?_) AllReadyH.nil)
  rw [if_pos (by rfl)]
  go_simp
  go_at_call 27
  refine (QC.out _ ((Out.refl _).drew)).mono ?_
  rintro e w1 ⟨rfl, ho1⟩
  have O1 := hidOf ((Out.refl w0).drew.trans ho1)
  have ed0 := cell_later O1.out cd0
  have ed1 := cell_later O1.out cd1
  have e2 := cell_later O1.out c2
  have e3 := cell_later O1.out c3
  clear ho1
  refine hKo8.out _ _ ⟨ed1, e2, e3⟩ (fun hHeld8 => ?_)
  try simp only [Act.put, List.setIfInBounds_toArray, List.set_cons_zero, List.set_cons_succ]
  refine tkLB [9, 10, 11, 12, 13] ?_
  iterate 5 (refine tkLC (v := ?_) rfl rfl (by kernel_rfl) (by kernel_rfl) (by kernel_rfl) (fun _ _ _ h => h) (by rfl) (by assumption) ?_ ?_; rotate_left; (· (intro w hSw; (try dsimp only at hSw); go_simp; (try with_reducible rfl))); simp only [Act.put, List.setIfInBounds_toArray, List.set_cons_zero, List.set_cons_succ])
  refine tkLE ?_
  refine wpAnyH_done (by kernel_rfl) ?_ _
  go_upto_region 17 with fail
  refine wp_region_held_drew (S := (fun w' => w'.cell? ⟨d, 0, none⟩ = some (.pointer (some ⟨t.s, 0, none⟩)) ∧ w'.cell? ⟨p, 2, none⟩ = some (.int .u64 at_) ∧ w'.cell? ⟨p, 3, none⟩ = some (.int .i64 N))) (by kernel_rfl) ?_ (fun hHeld => ?_)
  · exact ⟨ed0, e2, e3⟩
  refine tkLB [0, 1, 2, 3, 4, 5, 6, 7] ?_
  iterate 8 (refine tkLC (v := ?_) rfl rfl (by kernel_rfl) (by kernel_rfl) (by kernel_rfl) (fun _ _ _ h => h) (by rfl) (by assumption) ?_ ?_; rotate_left; (· (intro w hSw; (try dsimp only at hSw); go_simp; (try with_reducible rfl))); simp only [Act.put, List.setIfInBounds_toArray, List.set_cons_zero, List.set_cons_succ])
  refine tkLE ?_
  refine wpAnyH_ready (rs := [8]) (by kernel_rfl) (by simp) ?_
  refine (AllReadyH.cons rfl (fun Ko8 hKo8 => ?_) AllReadyH.nil)
  rw [if_pos (by rfl)]
  go_simp
  go_at_call 28
  refine (MC.out _ O1.out.drew).mono ?_
  rintro e w2 ⟨rfl, ho2⟩
  have O2 := hidOf (O1.out.trans ((Out.refl w1).drew.trans ho2))
  have gd0 := cell_later ((Out.refl w1).drew.trans ho2) ed0
  have g2 := cell_later ((Out.refl w1).drew.trans ho2) e2
  have g3 := cell_later ((Out.refl w1).drew.trans ho2) e3
  clear ho2
  refine hKo8.out _ _ ⟨gd0, g2, g3⟩ (fun hHeld8 => ?_)
  try simp only [Act.put, List.setIfInBounds_toArray, List.set_cons_zero, List.set_cons_succ]
  refine tkLB [9, 10, 11, 12, 13] ?_
  iterate 5 (refine tkLC (v := ?_) rfl rfl (by kernel_rfl) (by kernel_rfl) (by kernel_rfl) (fun _ _ _ h => h) (by rfl) (by assumption) ?_ ?_; rotate_left; (· (intro w hSw; (try dsimp only at hSw); go_simp; (try with_reducible rfl))); simp only [Act.put, List.setIfInBounds_toArray, List.set_cons_zero, List.set_cons_succ])
  refine tkLE ?_
  refine wpAnyH_done (by kernel_rfl) ?_ _
  go_wp2_with (go_at_call 18; refine (NC.out _ _).mono ?_; rintro e wx ⟨rfl, hx0⟩; subst hx0)
  refine bodyPost_ret (results_tmp3 rfl _ _ _) rfl ?_
  have h9 := fin.out _ (.slice none 0 0) (.slice none 0 0) O2.out (OutS.nil _ _ _ _ _)
  first | exact h9 | simpa using h9
set_option maxHeartbeats 8000000 in
set_option maxRecDepth 100000 in
theorem act5_any (B m d : Nat) (w : World) (t : DkT) (h : DkW B w d t m) (hm : m + 1 ≤ 1000000000) (which : Int) (at_ : Nat) (N : Int) (x k dc : Nat) (da : Option Addr) (ha : at_ < 18446744073709551616) (hN : -9223372036854775808 ≤ N ∧ N < 9223372036854775808) (hx : x < 18446744073709551616) :
    Calls Tryz.prog 8 #[.pointer (some ⟨d, 0, none⟩), actV which 5 at_ N x k dc da] w fun e w' => ActE B d m m k t w e w' := by
  unfold actV
  obtain ⟨p, hp⟩ : ∃ p, Hid (p = w.heap.size) := ⟨_, rfl⟩
  obtain ⟨w0, H0, b0, o0⟩ : ∃ w0, Hid (w0 = w.alloc (.cells #[.int .i64 which, .int .i64 5, .int .u64 at_, .int .i64 N, .int .u64 x, .slice da k dc] 31)) ∧ w0.heap[p]? = some (.cells #[.int .i64 which, .int .i64 5, .int .u64 at_, .int .i64 N, .int .u64 x, .slice da k dc] 31 (0, 0)) ∧ Out w w0 := ⟨_, rfl, by rw [hp.out]; exact heap_alloc_new w _, (Out.refl w).alloc _⟩
  have c0 : w0.cell? ⟨p, 0, none⟩ = some (.int .i64 which) := (cell_B b0 0).trans rfl
  have c1 : w0.cell? ⟨p, 1, none⟩ = some (.int .i64 5) := (cell_B b0 1).trans rfl
  have c2 : w0.cell? ⟨p, 2, none⟩ = some (.int .u64 at_) := (cell_B b0 2).trans rfl
  have c3 : w0.cell? ⟨p, 3, none⟩ = some (.int .i64 N) := (cell_B b0 3).trans rfl
  have c4 : w0.cell? ⟨p, 4, none⟩ = some (.int .u64 x) := (cell_B b0 4).trans rfl
  have c5 : w0.cell? ⟨p, 5, none⟩ = some (.slice da k dc) := (cell_B b0 5).trans rfl
  have hdk := h.1
  have cd0 : w0.cell? ⟨d, 0, none⟩ = some (.pointer (some ⟨t.s, 0, none⟩)) := cell_later o0 ((cell_B h.1.blk 0).trans rfl)
  have cd1 : w0.cell? ⟨d, 1, none⟩ = some (.slice t.a t.n t.c) := cell_later o0 ((cell_B h.1.blk 1).trans (by rw [h.2.1]; rfl))
  have hb := h.hb
  have hnm := h.nm
  have hpm := h.2.2
  have HW := hidOf h
  have O0 := hidOf o0
  have fin : Hid (∀ (W : World) (u v : Value), Out w0 W → OutS w W d t t u v → ActE B d m m k t w (.returned (.tuple #[.bool true, u, v])) W) := hidOf (fun W u v o os => ⟨u, v, t, rfl, ((DkR.start HW.out.1).out (O0.out.trans o)).mono (by omega), HW.out.2.1, HW.out.2.2, fun hq _ => hq, os⟩)
  obtain ⟨lf, hlf⟩ : ∃ lf, Hid (lf = (BysP (flat t.X) at_ N).2) := ⟨_, rfl⟩
  obtain ⟨ld, hld⟩ : ∃ ld, Hid (ld = (BysP (flat t.X) at_ N).1) := ⟨_, rfl⟩
  obtain ⟨n, hn⟩ : ∃ n, Hid (n = ld.length) := ⟨_, rfl⟩
  have QC : Hid (∀ W, Out w0 W → Calls Tryz.prog 31 #[.agg #[.slice t.a t.n t.c], .int .u64 at_, .int .i64 N] W fun e w' => ∃ a1 c1, e = .returned (.tuple #[.slice a1 n c1, .int .i64 lf]) ∧ RestA w' a1 ld ∧ Out W w') := hidOf (fun W o => by
    refine (refBytes_any W B t.a t.c t.n t.R at_ N ((hdk.rl.out o0).out o) hdk.rn hb (by omega) ha hN).mono ?_
    rintro e w' ⟨v, he, hv, ho⟩
    rw [bysP_Q hdk.sp.ok hpm, ← hlf.out] at he
    rw [bysP_Q hdk.sp.ok hpm, ← hld.out, ← hn.out] at hv
    obtain ⟨a1, c1, rfl, _, _⟩ := own_slice hv
    exact ⟨a1, c1, he, RestA.own hv hn.out, ho⟩)
  have MC : Hid (∀ W, Out w0 W → Calls Tryz.prog 32 #[.pointer (some ⟨t.s, 0, none⟩), .int .u64 at_, .int .i64 N] W fun e w' => ∃ a1 c1, e = .returned (.tuple #[.slice a1 n c1, .int .i64 lf]) ∧ w'.ownsRow W.heap.size 5 1 (.slice a1 n c1) n (ld.map byV) ∧ RestA w' a1 ld ∧ Out W w') := hidOf (fun W o => by
    refine (Bytes_any W B t.s t.v1 t.v2 t.X t.Y m at_ N ((hdk.sp.out o0).out o) ha hN).mono ?_
    rintro e w' ⟨v, he, hv, ho⟩
    rw [← hlf.out] at he
    rw [← hld.out, ← hn.out] at hv
    obtain ⟨a1, c1, rfl, _, _⟩ := own_slice hv
    exact ⟨a1, c1, he, hv, RestA.own hv hn.out, ho⟩)
  have LDB : Hid (BdP (t.R.map fdR) → ld.length ≤ 1048576) := hidOf (fun hq => by rw [hld.out]; exact bysP_len hdk.sp.ok.sf (fun y hy => hq.flat hpm (List.mem_append_left _ hy)) _ _)
  have SC := hidOf (fun (W : World) (a1 a2 : Option Addr) (c1 c2 : Nat) (h1 : RestA W a1 ld) (h2 : RestA W a2 ld) => sameB8_any W a1 a2 n c1 c2 ld hn.out h1 h2)
  have NC := hidOf (fun x W => num20_any x W)
  clear b0 o0 h hdk hb hnm hpm
  go_enter Tryz.func8, Tryz.ntmps8
  go_upto_region 1 with fail
  rw [← hp.out]
  rw [← H0.out]
  go_upto_region 25 with fail
  refine wp_region_held_drew (S := (fun w' => w'.cell? ⟨d, 1, none⟩ = some (.slice t.a t.n t.c) ∧ w'.cell? ⟨p, 2, none⟩ = some (.int .u64 at_) ∧ w'.cell? ⟨p, 3, none⟩ = some (.int .i64 N))) (by kernel_rfl) ?_ (fun hHeld => ?_)
  · exact ⟨cd1, c2, c3⟩
  refine tkLB [0, 1, 2, 3, 4, 5, 6, 7] ?_
  iterate 8 (refine tkLC (v := ?_) rfl rfl (by kernel_rfl) (by kernel_rfl) (by kernel_rfl) (fun _ _ _ h => h) (by rfl) (by assumption) ?_ ?_; rotate_left; (· (intro w hSw; (try dsimp only at hSw); go_simp; (try with_reducible rfl))); simp only [Act.put, List.setIfInBounds_toArray, List.set_cons_zero, List.set_cons_succ])
  refine tkLE ?_
  refine wpAnyH_ready (rs := [8]) (by kernel_rfl) (by simp) ?_
  refine (AllReadyH.cons rfl (fun Ko8 hKo8 => ?_) AllReadyH.nil)
  rw [if_pos (by rfl)]
  go_simp
  go_at_call 31
  refine (QC.out _ ((Out.refl _).drew)).mono ?_
  rintro e w1 ⟨a1, c1, rfl, hr1, ho1⟩
  have O1 := hidOf ((Out.refl w0).drew.trans ho1)
  have ed0 := cell_later O1.out cd0
  have ed1 := cell_later O1.out cd1
  have e2 := cell_later O1.out c2
  have e3 := cell_later O1.out c3
  have R1 := hidOf hr1
  clear hr1
  clear ho1
  refine hKo8.out _ _ ⟨ed1, e2, e3⟩ (fun hHeld8 => ?_)
  try simp only [Act.put, List.setIfInBounds_toArray, List.set_cons_zero, List.set_cons_succ]
  refine tkLB [9, 10, 11, 12, 13] ?_
  iterate 5 (refine tkLC (v := ?_) rfl rfl (by kernel_rfl) (by kernel_rfl) (by kernel_rfl) (fun _ _ _ h => h) (by rfl) (by assumption) ?_ ?_; rotate_left; (· (intro w hSw; (try dsimp only at hSw); go_simp; (try with_reducible rfl))); simp only [Act.put, List.setIfInBounds_toArray, List.set_cons_zero, List.set_cons_succ])
  refine tkLE ?_
  refine wpAnyH_done (by kernel_rfl) ?_ _
  go_upto_region 26 with fail
  refine wp_region_held_drew (S := (fun w' => w'.cell? ⟨d, 0, none⟩ = some (.pointer (some ⟨t.s, 0, none⟩)) ∧ w'.cell? ⟨p, 2, none⟩ = some (.int .u64 at_) ∧ w'.cell? ⟨p, 3, none⟩ = some (.int .i64 N))) (by kernel_rfl) ?_ (fun hHeld => ?_)
  · exact ⟨ed0, e2, e3⟩
  refine tkLB [0, 1, 2, 3, 4, 5, 6, 7] ?_
  iterate 8 (refine tkLC (v := ?_) rfl rfl (by kernel_rfl) (by kernel_rfl) (by kernel_rfl) (fun _ _ _ h => h) (by rfl) (by assumption) ?_ ?_; rotate_left; (· (intro w hSw; (try dsimp only at hSw); go_simp; (try with_reducible rfl))); simp only [Act.put, List.setIfInBounds_toArray, List.set_cons_zero, List.set_cons_succ])
  refine tkLE ?_
  refine wpAnyH_ready (rs := [8]) (by kernel_rfl) (by simp) ?_
  refine (AllReadyH.cons rfl (fun Ko8 hKo8 => ?_) AllReadyH.nil)
  rw [if_pos (by rfl)]
  go_simp
  go_at_call 32
  refine (MC.out _ O1.out.drew).mono ?_
  rintro e w2 ⟨a2, c2, rfl, hw2, hr2, ho2⟩
  have O2 := hidOf (O1.out.trans ((Out.refl w1).drew.trans ho2))
  have gd0 := cell_later ((Out.refl w1).drew.trans ho2) ed0
  have g2 := cell_later ((Out.refl w1).drew.trans ho2) e2
  have g3 := cell_later ((Out.refl w1).drew.trans ho2) e3
  have W2 := hidOf hw2
  have R2 := hidOf hr2
  have O12 := hidOf ((Out.refl w1).drew.trans ho2)
  clear hr2 hw2
  clear ho2
  refine hKo8.out _ _ ⟨gd0, g2, g3⟩ (fun hHeld8 => ?_)
  try simp only [Act.put, List.setIfInBounds_toArray, List.set_cons_zero, List.set_cons_succ]
  refine tkLB [9, 10, 11, 12, 13] ?_
  iterate 5 (refine tkLC (v := ?_) rfl rfl (by kernel_rfl) (by kernel_rfl) (by kernel_rfl) (fun _ _ _ h => h) (by rfl) (by assumption) ?_ ?_; rotate_left; (· (intro w hSw; (try dsimp only at hSw); go_simp; (try with_reducible rfl))); simp only [Act.put, List.setIfInBounds_toArray, List.set_cons_zero, List.set_cons_succ])
  refine tkLE ?_
  refine wpAnyH_done (by kernel_rfl) ?_ _
  go_wp2_with (first | (go_at_call 18; refine (NC.out _ _).mono ?_; rintro e wx ⟨rfl, hx0⟩; subst hx0) | (go_at_call 33; refine (SC.out _ _ _ _ _ R2.out (R1.out.out O12.out)).mono ?_; rintro e wx ⟨rfl, hx0⟩; subst hx0))
  refine bodyPost_ret (results_tmp3 rfl _ _ _) rfl ?_
  have hwo := own_base W2.out (show w.heap.size ≤ w1.drew.heap.size from (O0.out.trans O1.out).size)
  have h9 := fin.out _ (.slice a2 n c2) (.slice none 0 0) O2.out ⟨ld, a2, c2, none, 0, [], by rw [hn.out], rfl, .inr rfl, by rw [← hn.out]; exact hwo, RLs.nil _ _, List.Pairwise.nil, fun hq => ⟨LDB.out hq, fun p hp => by simp at hp⟩, Nat.zero_le _, fun q hq hf => by
    have h5 := (HW.out.1.lt hf).2
    rcases hq with hq | hq | ⟨z, hz, _⟩
    · have h6 := (hwo.lt q hq).1; omega
    · cases hq
    · cases hz⟩
  first | exact h9 | simpa using h9
set_option maxHeartbeats 8000000 in
set_option maxRecDepth 100000 in
theorem act7_any (B m d : Nat) (w : World) (t : DkT) (h : DkW B w d t m) (hm : m + 1 ≤ 1000000000) (which : Int) (at_ : Nat) (N : Int) (x k dc : Nat) (da : Option Addr) (ha : at_ < 18446744073709551616) (hN : -9223372036854775808 ≤ N ∧ N < 9223372036854775808) (hx : x < 18446744073709551616) :
    Calls Tryz.prog 8 #[.pointer (some ⟨d, 0, none⟩), actV which 7 at_ N x k dc da] w fun e w' => ActE B d m m k t w e w' := by
  unfold actV
  obtain ⟨p, hp⟩ : ∃ p, Hid (p = w.heap.size) := ⟨_, rfl⟩
  obtain ⟨w0, H0, b0, o0⟩ : ∃ w0, Hid (w0 = w.alloc (.cells #[.int .i64 which, .int .i64 7, .int .u64 at_, .int .i64 N, .int .u64 x, .slice da k dc] 31)) ∧ w0.heap[p]? = some (.cells #[.int .i64 which, .int .i64 7, .int .u64 at_, .int .i64 N, .int .u64 x, .slice da k dc] 31 (0, 0)) ∧ Out w w0 := ⟨_, rfl, by rw [hp.out]; exact heap_alloc_new w _, (Out.refl w).alloc _⟩
  have c0 : w0.cell? ⟨p, 0, none⟩ = some (.int .i64 which) := (cell_B b0 0).trans rfl
  have c1 : w0.cell? ⟨p, 1, none⟩ = some (.int .i64 7) := (cell_B b0 1).trans rfl
  have c2 : w0.cell? ⟨p, 2, none⟩ = some (.int .u64 at_) := (cell_B b0 2).trans rfl
  have c3 : w0.cell? ⟨p, 3, none⟩ = some (.int .i64 N) := (cell_B b0 3).trans rfl
  have c4 : w0.cell? ⟨p, 4, none⟩ = some (.int .u64 x) := (cell_B b0 4).trans rfl
  have c5 : w0.cell? ⟨p, 5, none⟩ = some (.slice da k dc) := (cell_B b0 5).trans rfl
  have hdk := h.1
  have cd0 : w0.cell? ⟨d, 0, none⟩ = some (.pointer (some ⟨t.s, 0, none⟩)) := cell_later o0 ((cell_B h.1.blk 0).trans rfl)
  have cd1 : w0.cell? ⟨d, 1, none⟩ = some (.slice t.a t.n t.c) := cell_later o0 ((cell_B h.1.blk 1).trans (by rw [h.2.1]; rfl))
  have hb := h.hb
  have hnm := h.nm
  have hpm := h.2.2
  have HW := hidOf h
  have O0 := hidOf o0
  have fin : Hid (∀ (W : World) (u v : Value), Out w0 W → OutS w W d t t u v → ActE B d m m k t w (.returned (.tuple #[.bool true, u, v])) W) := hidOf (fun W u v o os => ⟨u, v, t, rfl, ((DkR.start HW.out.1).out (O0.out.trans o)).mono (by omega), HW.out.2.1, HW.out.2.2, fun hq _ => hq, os⟩)
  obtain ⟨n, hn⟩ : ∃ n, Hid (n = t.n) := ⟨_, rfl⟩
  have hRl : t.R.length = n := by rw [hn.out]; exact hdk.rn
  obtain ⟨S, hS1, hS2⟩ := sorted_of hpm hdk.sp.ok.dif
  have QC := hidOf (fun (W : World) (o : Out w0 W) => refRegions_any W B t.a t.c t.n t.R ((hdk.rl.out o0).out o) hdk.rn hb (by omega) S hS1 hS2)
  have MC := hidOf (fun (W : World) (o : Out w0 W) => RegionsD_any W B t.s t.v1 t.v2 t.X t.Y m ((hdk.sp.out o0).out o) (by omega))
  have HS1 := hidOf hS1
  have HS2 := hidOf hS2
  have HP2 := hidOf hpm
  have HRl := hidOf hRl
  have hn9 : n ≤ 1000000000 := by rw [hn.out]; omega
  rw [← hn.out] at QC cd1
  clear b0 o0 h hdk hb hnm hpm hS1 hS2 hRl
  go_enter Tryz.func8, Tryz.ntmps8
  go_upto_region 1 with fail
  rw [← hp.out]
  rw [← H0.out]
  go_upto_region 36 with (go_at_call 36; refine (QC.out _ (Out.refl _)).mono ?_; rintro e w1 ⟨a1, c1', R1, rfl, hr1, hm1, ho1⟩; have RL1 := hidOf hr1; have HM1 := hidOf hm1; have O1 := hidOf ho1; have cd2 := cell_later ho1 cd0; clear hr1 hm1 ho1)
  have MC1 := hidOf (MC.out w1 O1.out)
  go_upto_region 37 with (go_at_call 37; refine MC1.out.mono ?_; rintro e w2 ⟨a2, c2', R2, rfl, hown2, hda2, hpm2, hsr2, hdn2, ho2⟩; have N2 := hidOf hdn2; clear hdn2; have W2 := hidOf hown2; have D2 := hidOf hda2; have P2 := hidOf hpm2; have T2 := hidOf hsr2; have O2 := hidOf ho2; clear hown2 hda2 hpm2 hsr2 ho2)
  have he : R2.map fdR = S := sorted_eq _ _ (srt_fd T2.out) HS2.out (P2.out.trans (HP2.out.symm.trans HS1.out))
  have hl2 : R2.length = n := by
    have e1 := congrArg List.length he
    have e2 := HS1.out.length_eq
    rw [List.length_map] at e1 e2
    rw [e1, ← e2]; exact HRl.out
  have SRC := hidOf (sameRegs_any w2 w1.heap.size w0.heap.size n c2' c1' a2 a1 R2 R1 ⟨by have h9 := W2.out; rw [hl2] at h9; exact h9, D2.out⟩ (RL1.out.out O2.out) (by rw [he]; exact HM1.out.symm) hl2 hn9)
  have HL2 := hidOf hl2
  rw [hl2]
  clear he hl2
  go_wp2_with (go_at_call 38; refine SRC.out.mono ?_; rintro e w3 ⟨rfl, ho3⟩; have O3 := hidOf ho3; clear ho3)
  refine bodyPost_ret (results_tmp3 rfl _ _ _) rfl ?_
  have hzz : w.heap.size ≤ w1.heap.size := (O0.out.trans O1.out).size
  have hrl : RLs w.heap.size w3 a2 c2' R2.length R2 := ⟨own_out (own_base W2.out hzz) O3.out, fun z hz => DaI.out (x := z) (own_base (D2.out z hz) hzz) O3.out⟩
  have h9 := fin.out w3 (.slice none 0 0) (.slice a2 n c2') (O1.out.trans (O2.out.trans O3.out)) ⟨[], none, 0, a2, c2', R2, rfl, by rw [HL2.out], .inl rfl, World.ownsRow_nil _ _ _ _, hrl, N2.out, fun hq => ⟨Nat.zero_le _, fun p hp => hq p ((P2.out.trans HP2.out.symm).subset hp)⟩, by rw [HL2.out, hn.out]; exact Nat.le_refl _, fun q hq hf => by
    have h5 := (HW.out.1.lt hf).2
    rcases hq with hq | hq
    · cases hq
    · rw [← HL2.out] at hq
      have h6 := (hrl.lt hq).1; omega⟩
  first | exact h9 | simpa using h9
set_option maxHeartbeats 8000000 in
set_option maxRecDepth 100000 in
theorem actO_any (B m d : Nat) (w : World) (t : DkT) (h : DkW B w d t m) (hm : m + 1 ≤ 1000000000) (kind : Int) (hk : ¬ (1 ≤ kind ∧ kind ≤ 7)) (which : Int) (at_ : Nat) (N : Int) (x k dc : Nat) (da : Option Addr) (ha : at_ < 18446744073709551616) (hN : -9223372036854775808 ≤ N ∧ N < 9223372036854775808) (hx : x < 18446744073709551616) :
    Calls Tryz.prog 8 #[.pointer (some ⟨d, 0, none⟩), actV which kind at_ N x k dc da] w fun e w' => ActE B d m m k t w e w' := by
  have k1 : (kind == 1) = false := by rw [beq_eq_false_iff_ne]; omega
  have k2 : (kind == 2) = false := by rw [beq_eq_false_iff_ne]; omega
  have k3 : (kind == 3) = false := by rw [beq_eq_false_iff_ne]; omega
  have k4 : (kind == 4) = false := by rw [beq_eq_false_iff_ne]; omega
  have k5 : (kind == 5) = false := by rw [beq_eq_false_iff_ne]; omega
  have k6 : (kind == 6) = false := by rw [beq_eq_false_iff_ne]; omega
  have k7 : (kind == 7) = false := by rw [beq_eq_false_iff_ne]; omega
  unfold actV
  obtain ⟨p, hp⟩ : ∃ p, Hid (p = w.heap.size) := ⟨_, rfl⟩
  obtain ⟨w0, H0, b0, o0⟩ : ∃ w0, Hid (w0 = w.alloc (.cells #[.int .i64 which, .int .i64 kind, .int .u64 at_, .int .i64 N, .int .u64 x, .slice da k dc] 31)) ∧ w0.heap[p]? = some (.cells #[.int .i64 which, .int .i64 kind, .int .u64 at_, .int .i64 N, .int .u64 x, .slice da k dc] 31 (0, 0)) ∧ Out w w0 := ⟨_, rfl, by rw [hp.out]; exact heap_alloc_new w _, (Out.refl w).alloc _⟩
  have c0 : w0.cell? ⟨p, 0, none⟩ = some (.int .i64 which) := (cell_B b0 0).trans rfl
  have c1 : w0.cell? ⟨p, 1, none⟩ = some (.int .i64 kind) := (cell_B b0 1).trans rfl
  have c2 : w0.cell? ⟨p, 2, none⟩ = some (.int .u64 at_) := (cell_B b0 2).trans rfl
  have c3 : w0.cell? ⟨p, 3, none⟩ = some (.int .i64 N) := (cell_B b0 3).trans rfl
  have c4 : w0.cell? ⟨p, 4, none⟩ = some (.int .u64 x) := (cell_B b0 4).trans rfl
  have c5 : w0.cell? ⟨p, 5, none⟩ = some (.slice da k dc) := (cell_B b0 5).trans rfl
  have hdk := h.1
  have cd0 : w0.cell? ⟨d, 0, none⟩ = some (.pointer (some ⟨t.s, 0, none⟩)) := cell_later o0 ((cell_B h.1.blk 0).trans rfl)
  have cd1 : w0.cell? ⟨d, 1, none⟩ = some (.slice t.a t.n t.c) := cell_later o0 ((cell_B h.1.blk 1).trans (by rw [h.2.1]; rfl))
  have hb := h.hb
  have hnm := h.nm
  have hpm := h.2.2
  have HW := hidOf h
  have O0 := hidOf o0
  have fin : Hid (∀ (W : World) (u v : Value), Out w0 W → OutS w W d t t u v → ActE B d m m k t w (.returned (.tuple #[.bool true, u, v])) W) := hidOf (fun W u v o os => ⟨u, v, t, rfl, ((DkR.start HW.out.1).out (O0.out.trans o)).mono (by omega), HW.out.2.1, HW.out.2.2, fun hq _ => hq, os⟩)
  clear b0 o0 h hdk hb hnm hpm hk
  go_enter Tryz.func8, Tryz.ntmps8
  go_upto_region 1 with fail
  rw [← hp.out]
  rw [← H0.out]
  go_wp2
  refine bodyPost_ret (results_tmp3 rfl _ _ _) rfl ?_
  exact fin.out w0 (.slice none 0 0) (.slice none 0 0) (Out.refl _) (OutS.nil _ _ _ _ _)
set_option maxHeartbeats 8000000 in
theorem nothingO_any (w : World) (d : Nat) (h : w.cell? ⟨d, 0, none⟩ = some (.pointer none)) (kind : Int) (hk : ¬ (1 ≤ kind ∧ kind ≤ 7)) (which : Int) (at_ : Nat) (N : Int) (x k dc : Nat) (da : Option Addr) (ha : at_ < 18446744073709551616) (hN : -9223372036854775808 ≤ N ∧ N < 9223372036854775808) (hx : x < 18446744073709551616) :
    Calls Tryz.prog 19 #[.pointer (some ⟨d, 0, none⟩), actV which kind at_ N x k dc da] w fun e w' => e = .returned (.bool true) ∧ Out w w' := by
  have k1 : (kind == 1) = false := by rw [beq_eq_false_iff_ne]; omega
  have k2 : (kind == 2) = false := by rw [beq_eq_false_iff_ne]; omega
  have k3 : (kind == 3) = false := by rw [beq_eq_false_iff_ne]; omega
  have k4 : (kind == 4) = false := by rw [beq_eq_false_iff_ne]; omega
  have k5 : (kind == 5) = false := by rw [beq_eq_false_iff_ne]; omega
  have k6 : (kind == 6) = false := by rw [beq_eq_false_iff_ne]; omega
  have k7 : (kind == 7) = false := by rw [beq_eq_false_iff_ne]; omega
  unfold actV
  obtain ⟨p, hp⟩ : ∃ p, Hid (p = w.heap.size) := ⟨_, rfl⟩
  obtain ⟨w0, H0, b0, o0⟩ : ∃ w0, Hid (w0 = w.alloc (.cells #[.int .i64 which, .int .i64 kind, .int .u64 at_, .int .i64 N, .int .u64 x, .slice da k dc] 31)) ∧ w0.heap[p]? = some (.cells #[.int .i64 which, .int .i64 kind, .int .u64 at_, .int .i64 N, .int .u64 x, .slice da k dc] 31 (0, 0)) ∧ Out w w0 := ⟨_, rfl, by rw [hp.out]; exact heap_alloc_new w _, (Out.refl w).alloc _⟩
  have c0 : w0.cell? ⟨p, 0, none⟩ = some (.int .i64 which) := (cell_B b0 0).trans rfl
  have c1 : w0.cell? ⟨p, 1, none⟩ = some (.int .i64 kind) := (cell_B b0 1).trans rfl
  have c2 : w0.cell? ⟨p, 2, none⟩ = some (.int .u64 at_) := (cell_B b0 2).trans rfl
  have c3 : w0.cell? ⟨p, 3, none⟩ = some (.int .i64 N) := (cell_B b0 3).trans rfl
  have c4 : w0.cell? ⟨p, 4, none⟩ = some (.int .u64 x) := (cell_B b0 4).trans rfl
  have c5 : w0.cell? ⟨p, 5, none⟩ = some (.slice da k dc) := (cell_B b0 5).trans rfl
  have O0 := hidOf o0
  clear b0 o0 h hk
  go_enter Tryz.func19, Tryz.ntmps19
  go_upto_region 1 with fail
  rw [← hp.out]
  rw [← H0.out]
  go_wp2
  go_ret
  exact ⟨rfl, O0.out⟩
theorem nothingA_any (w : World) (d : Nat) (h : w.cell? ⟨d, 0, none⟩ = some (.pointer none)) (kind : Int) (which : Int) (at_ : Nat) (N : Int) (x k dc : Nat) (da : Option Addr) (ha : at_ < 18446744073709551616) (hN : -9223372036854775808 ≤ N ∧ N < 9223372036854775808) (hx : x < 18446744073709551616) :
    Calls Tryz.prog 19 #[.pointer (some ⟨d, 0, none⟩), actV which kind at_ N x k dc da] w fun e w' => e = .returned (.bool true) ∧ Out w w' := by
  by_cases hk : 1 ≤ kind ∧ kind ≤ 7
  · exact nothingK_any w d h which kind at_ N x k dc da hx hk
  · exact nothingO_any w d h kind hk which at_ N x k dc da ha hN hx
set_option maxHeartbeats 8000000 in
set_option maxRecDepth 100000 in
theorem actN_any (w : World) (d : Nat) (h : w.cell? ⟨d, 0, none⟩ = some (.pointer none)) (kind : Int) (which : Int) (at_ : Nat) (N : Int) (x k dc : Nat) (da : Option Addr) (ha : at_ < 18446744073709551616) (hN : -9223372036854775808 ≤ N ∧ N < 9223372036854775808) (hx : x < 18446744073709551616) :
    Calls Tryz.prog 8 #[.pointer (some ⟨d, 0, none⟩), actV which kind at_ N x k dc da] w fun e w' => e = .returned (.tuple #[.bool true, .slice none 0 0, .slice none 0 0]) ∧ Out w w' := by
  unfold actV
  obtain ⟨p, hp⟩ : ∃ p, Hid (p = w.heap.size) := ⟨_, rfl⟩
  obtain ⟨w0, H0, b0, o0⟩ : ∃ w0, Hid (w0 = w.alloc (.cells #[.int .i64 which, .int .i64 kind, .int .u64 at_, .int .i64 N, .int .u64 x, .slice da k dc] 31)) ∧ w0.heap[p]? = some (.cells #[.int .i64 which, .int .i64 kind, .int .u64 at_, .int .i64 N, .int .u64 x, .slice da k dc] 31 (0, 0)) ∧ Out w w0 := ⟨_, rfl, by rw [hp.out]; exact heap_alloc_new w _, (Out.refl w).alloc _⟩
  have c0 : w0.cell? ⟨p, 0, none⟩ = some (.int .i64 which) := (cell_B b0 0).trans rfl
  have c1 : w0.cell? ⟨p, 1, none⟩ = some (.int .i64 kind) := (cell_B b0 1).trans rfl
  have c2 : w0.cell? ⟨p, 2, none⟩ = some (.int .u64 at_) := (cell_B b0 2).trans rfl
  have c3 : w0.cell? ⟨p, 3, none⟩ = some (.int .i64 N) := (cell_B b0 3).trans rfl
  have c4 : w0.cell? ⟨p, 4, none⟩ = some (.int .u64 x) := (cell_B b0 4).trans rfl
  have c5 : w0.cell? ⟨p, 5, none⟩ = some (.slice da k dc) := (cell_B b0 5).trans rfl
  have cd : w0.cell? ⟨d, 0, none⟩ = some (.pointer none) := cell_later o0 h
  have NOC := hidOf (nothingA_any w0 d cd kind which at_ N x k dc da ha hN hx)
  have O0 := hidOf o0
  unfold actV at NOC
  clear b0 o0 h
  go_enter Tryz.func8, Tryz.ntmps8
  go_upto_region 1 with fail
  rw [← hp.out]
  rw [← H0.out]
  go_wp2_with (go_at_call 19; refine NOC.out.mono ?_; rintro e w1 ⟨rfl, ho1⟩; have O1 := hidOf (O0.out.trans ho1); clear ho1)
  refine bodyPost_ret (results_tmp3 rfl _ _ _) rfl ?_
  exact ⟨rfl, O1.out⟩
end Go.Proofs.YtekjfbmebekmeaaGreat
