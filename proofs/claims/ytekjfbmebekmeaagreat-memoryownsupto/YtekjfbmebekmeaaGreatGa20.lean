import Derived.Test.YtekjfbmebekmeaaGreatGa19
namespace Go.Proofs.YtekjfbmebekmeaaGreat
open Go.RowKit
set_option linter.unusedVariables false
set_option linter.unusedSimpArgs false
def cl1 (f1 n1 f2 n2 : Nat) : Bool := f1 == f2 || (decide (0 < n1) && decide (0 < n2) && (if f2 < f1 then decide (f1 - f2 < n2) else decide (f2 - f1 < n1)))
theorem cl1_iff (f1 n1 f2 n2 : Nat) : cl1 f1 n1 f2 n2 = true ↔ f1 = f2 ∨ (0 < n1 ∧ 0 < n2 ∧ (f2 < f1 ∧ f1 - f2 < n2 ∨ ¬ f2 < f1 ∧ f2 - f1 < n1)) := by
  unfold cl1
  simp only [Bool.or_eq_true, beq_iff_eq, Bool.and_eq_true, decide_eq_true_eq]
  by_cases h : f2 < f1 <;> simp [h, and_assoc]
theorem sorted_eq : ∀ (P Q : List (Nat × List UInt8)), P.Pairwise (fun a b => a.1 < b.1) → Q.Pairwise (fun a b => a.1 < b.1) → P.Perm Q → P = Q
  | [], Q, _, _, h => (List.nil_perm.1 h).symm
  | a :: P, [], _, _, h => by simpa using h.length_eq
  | a :: P, b :: Q, hp, hq, h => by
    obtain ⟨h1, h2⟩ := List.pairwise_cons.1 hp
    obtain ⟨h3, h4⟩ := List.pairwise_cons.1 hq
    have e : a = b := by
      rcases List.mem_cons.1 (h.mem_iff.1 (List.mem_cons_self)) with e | ha
      · exact e
      · rcases List.mem_cons.1 (h.mem_iff.2 (List.mem_cons_self)) with e | hb
        · exact e.symm
        · have := h1 b hb
          have := h3 a ha
          omega
    subst e
    rw [sorted_eq P Q h2 h4 (List.Perm.cons_inv h)]
theorem srt_fd {R : List Rg} (h : Srt R) : (R.map fdR).Pairwise (fun a b => a.1 < b.1) := List.pairwise_map.2 h
def updP (f : Nat) (d : List UInt8) (p : Nat × List UInt8) : Nat × List UInt8 := if p.1 = f then (p.1, d) else p
theorem fd_upd (f : Nat) (d : List UInt8) (z : Rg) : fdR (updR f d z) = updP f d (fdR z) := by
  unfold updR updP fdR
  by_cases h : z.f = f <;> simp [h]
theorem any_perm {α : Type} {P Q : List α} (h : P.Perm Q) (f : α → Bool) : P.any f = Q.any f := by
  rw [Bool.eq_iff_iff, List.any_eq_true, List.any_eq_true]
  exact ⟨fun ⟨x, hx, hf⟩ => ⟨x, h.mem_iff.1 hx, hf⟩, fun ⟨x, hx, hf⟩ => ⟨x, h.mem_iff.2 hx, hf⟩⟩
theorem clP_any {F E : List Rg} (h : SpOk F E) (f n : Nat) : clP F E f n = (F ++ E).any (fun x => cl1 x.f x.d.length f n) := by
  rw [Bool.eq_iff_iff, List.any_eq_true]
  unfold clP
  simp only [Bool.or_eq_true, List.any_eq_true, beq_iff_eq, Bool.and_eq_true, Bool.not_eq_true', beq_eq_false_iff_ne]
  constructor
  · rintro ((⟨x, hx, e⟩ | ⟨x, hx, e⟩) | ⟨hn, hm⟩)
    · exact ⟨x, List.mem_append_left _ hx, (cl1_iff ..).2 (.inl e)⟩
    · exact ⟨x, List.mem_append_right _ hx, (cl1_iff ..).2 (.inl e)⟩
    · rcases upF_hit h.sf (f + (n - 1)) with ⟨y, hy, hyF, hyl, hq1, hq2⟩ | ⟨hy, _⟩
      · rw [hy] at hm
        simp only [decide_eq_true_eq] at hm
        have hm2 := hm
        clear hq1 hq2
        have := h.fd y hyF
        refine ⟨y, List.mem_append_left _ hyF, (cl1_iff ..).2 ?_⟩
        omega
      · rw [hy] at hm; cases hm
  · rintro ⟨x, hx, hc⟩
    have hc := (cl1_iff ..).1 hc
    rcases List.mem_append.1 hx with hx | hx
    · rcases hc with e | ⟨c1, c2, c3⟩
      · exact .inl (.inl ⟨x, hx, e⟩)
      · refine .inr ⟨by omega, ?_⟩
        rcases upF_hit h.sf (f + (n - 1)) with ⟨y, hy, hyF, hyl, hq1, hyu⟩ | ⟨_, hno⟩
        · clear hq1
          rw [hy]
          have hxy := hyu x hx (by omega)
          have hyd := h.fd y hyF
          have hxd := h.fd x hx
          refine decide_eq_true ?_
          rcases c3 with ⟨c3, c4⟩ | ⟨c3, c4⟩
          · omega
          · by_cases he : x.f = y.f
            · have e := srt_one h.sf hx hyF he
              rw [← e]
              omega
            · have hap : x.f + x.d.length ≤ y.f := by
                obtain ⟨i, hi⟩ := List.getElem?_of_mem hx
                obtain ⟨j, hj⟩ := List.getElem?_of_mem hyF
                have hil := (List.getElem?_eq_some_iff.1 hi).1
                have hjl := (List.getElem?_eq_some_iff.1 hj).1
                have hix := (List.getElem?_eq_some_iff.1 hi).2
                have hjy := (List.getElem?_eq_some_iff.1 hj).2
                by_cases hij : i < j
                · have := (List.pairwise_iff_getElem.1 h.ap) i j hil hjl hij
                  rw [hix, hjy] at this
                  exact this
                · exfalso
                  have hne : i ≠ j := fun e => by
                    subst e
                    rw [hix] at hjy
                    exact he (by rw [hjy])
                  have := (List.pairwise_iff_getElem.1 h.ap) j i hjl hil (by omega)
                  rw [hix, hjy] at this
                  omega
              omega
        · have := hno x hx
          omega
    · rcases hc with e | ⟨c1, _, _⟩
      · exact .inl (.inr ⟨x, hx, e⟩)
      · rw [(h.ed x hx).1] at c1
        simp at c1
def fdI (x : RI) : Nat × List UInt8 := (x.f, x.d)
theorem ins_perm {F F' : List Rg} {x : Rg} (h : InsP F x F') : F'.Perm (F ++ [x]) := h.perm.trans (List.perm_append_singleton x F).symm
theorem run_all {L : List RI} {F E : List Rg} (h : Run L F E) (hb : ∀ x ∈ L, x.f < 18446744073709551616) : SpOk F E ∧ ((F ++ E).map fdR).Perm (L.map fdI) := by
  induction h with
  | nil => exact ⟨SpOk.nil, List.Perm.refl _⟩
  | addE L F E E' r x h1 h2 h3 h4 h5 h6 ih =>
    obtain ⟨a1, a2⟩ := ih (fun y hy => hb y (List.mem_append_left _ hy))
    have hr := hb r (by simp)
    unfold noP at h2
    simp only [Bool.or_eq_false_iff, Bool.not_eq_false'] at h2
    refine ⟨a1.addE h6 (by rw [h4, h5]; exact h2.2) (h5.trans h3) (by rw [h4]; exact hr), ?_⟩
    rw [List.map_append, List.map_append]
    refine ((List.Perm.append_left _ ((ins_perm h6).map fdR))).trans ?_
    rw [List.map_append, ← List.append_assoc, ← List.map_append]
    refine (a2.append_right _).trans ?_
    simp [fdR, fdI, h4, h5]
  | addF L F E F' r x h1 h2 h3 h4 h5 h6 ih =>
    obtain ⟨a1, a2⟩ := ih (fun y hy => hb y (List.mem_append_left _ hy))
    have hr := hb r (by simp)
    unfold noP at h2
    simp only [Bool.or_eq_false_iff, Bool.not_eq_false'] at h2
    have hd : 0 < r.d.length := List.length_pos_iff.2 h3
    have hm : r.f + r.d.length ≤ 18446744073709551616 := by
      have h7 := h2.1
      unfold mayR at h7
      simp only [Bool.or_eq_true, beq_iff_eq, decide_eq_true_eq] at h7
      omega
    refine ⟨a1.addF h6 (by rw [h4, h5]; exact h2.2) (by rw [h5]; exact hd) (by rw [h4, h5]; exact hm), ?_⟩
    rw [List.map_append, List.map_append]
    refine ((List.Perm.append_right _ ((ins_perm h6).map fdR))).trans ?_
    rw [List.map_append, List.append_assoc]
    refine ((List.Perm.append_left _ List.perm_append_comm)).trans ?_
    rw [← List.append_assoc, ← List.map_append]
    refine (a2.append_right _).trans ?_
    simp [fdR, fdI, h4, h5]
def noI (P : List RI) (r : RI) : Bool := !mayR r.f r.d.length || P.any (fun x => cl1 x.f x.d.length r.f r.d.length)
theorem noP_I {L : List RI} {F E : List Rg} (h : Run L F E) (hb : ∀ x ∈ L, x.f < 18446744073709551616) (r : RI) : noP F E r = noI L r := by
  obtain ⟨h1, h2⟩ := run_all h hb
  unfold noP noI
  rw [clP_any h1]
  congr 1
  have e1 : (F ++ E).any (fun x => cl1 x.f x.d.length r.f r.d.length) = ((F ++ E).map fdR).any (fun p => cl1 p.1 p.2.length r.f r.d.length) := by rw [List.any_map]; rfl
  have e2 : L.any (fun x => cl1 x.f x.d.length r.f r.d.length) = (L.map fdI).any (fun p => cl1 p.1 p.2.length r.f r.d.length) := by rw [List.any_map]; rfl
  rw [e1, e2]
  exact any_perm h2 _
def okI (L : List RI) : Prop := ∀ k r, L[k]? = some r → noI (L.take k) r = false
theorem run_ok {L : List RI} {F E : List Rg} (h : Run L F E) (hb : ∀ x ∈ L, x.f < 18446744073709551616) : okI L := by
  induction h with
  | nil => intro k r hk; simp at hk
  | addE L F E E' r x h1 h2 h3 h4 h5 h6 ih =>
    have hb' : ∀ x ∈ L, x.f < 18446744073709551616 := fun y hy => hb y (List.mem_append_left _ hy)
    intro k q hk
    by_cases hkl : k < L.length
    · rw [List.getElem?_append_left hkl] at hk
      rw [List.take_append_of_le_length (by omega)]
      exact ih hb' k q hk
    · have hk2 : k = L.length := by
        have := (List.getElem?_eq_some_iff.1 hk).1
        simp at this
        omega
      subst hk2
      simp at hk
      subst hk
      rw [List.take_left]
      rw [← noP_I h1 hb' r]
      exact h2
  | addF L F E F' r x h1 h2 h3 h4 h5 h6 ih =>
    have hb' : ∀ x ∈ L, x.f < 18446744073709551616 := fun y hy => hb y (List.mem_append_left _ hy)
    intro k q hk
    by_cases hkl : k < L.length
    · rw [List.getElem?_append_left hkl] at hk
      rw [List.take_append_of_le_length (by omega)]
      exact ih hb' k q hk
    · have hk2 : k = L.length := by
        have := (List.getElem?_eq_some_iff.1 hk).1
        simp at this
        omega
      subst hk2
      simp at hk
      subst hk
      rw [List.take_left]
      rw [← noP_I h1 hb' r]
      exact h2
theorem run_not {L : List RI} {F E : List Rg} {k : Nat} {r : RI} (hk : L[k]? = some r) (h : Run (L.take k) F E) (hb : ∀ x ∈ L, x.f < 18446744073709551616) (hno : noP F E r = true) : ¬ okI L := fun ho => by
  have h1 := ho k r hk
  rw [← noP_I h (fun x hx => hb x (List.mem_of_mem_take hx)) r, hno] at h1
  cases h1
def noQ (P : List (Nat × List UInt8)) (f n : Nat) : Bool := !mayR f n || P.any (fun x => cl1 x.1 x.2.length f n)
theorem noI_Q (L : List RI) (r : RI) : noI L r = noQ (L.map fdI) r.f r.d.length := by
  simp [noI, noQ, List.any_map, fdI, Function.comp_def]
def okQ (P : List (Nat × List UInt8)) : Prop := ∀ (k : Nat) x, P[k]? = some x → noQ (P.take k) x.1 x.2.length = false
theorem okI_Q (L : List RI) : okI L ↔ okQ (L.map fdI) := by
  constructor
  · intro h k x hx
    rw [List.getElem?_map] at hx
    cases hz : L[k]? with
    | none => rw [hz] at hx; cases hx
    | some z =>
      rw [hz] at hx; cases hx
      rw [← List.map_take]
      exact (noI_Q _ _).symm.trans (h k z hz)
  · intro h k r hr
    rw [noI_Q, List.map_take]
    exact h k (fdI r) (by rw [List.getElem?_map, hr]; rfl)
theorem okQ_nil (P : List (Nat × List UInt8)) : okQ (P.take 0) := by
  intro k x hx; simp at hx
theorem okQ_step {P : List (Nat × List UInt8)} {k : Nat} {x : Nat × List UInt8} (h : okQ (P.take k)) (hx : P[k]? = some x) (hn : noQ (P.take k) x.1 x.2.length = false) : okQ (P.take (k + 1)) := by
  have hk : k < P.length := (List.getElem?_eq_some_iff.1 hx).1
  intro j y hy
  have hj : j < k + 1 := by have := (List.getElem?_eq_some_iff.1 hy).1; rw [List.length_take] at this; omega
  rw [List.getElem?_take, if_pos hj] at hy
  rw [List.take_take, Nat.min_eq_left (by omega)]
  by_cases hjk : j = k
  · subst hjk; rw [hx] at hy; cases hy; exact hn
  · have := h j y (by rw [List.getElem?_take, if_pos (by omega)]; exact hy)
    rw [List.take_take, Nat.min_eq_left (by omega)] at this
    exact this
theorem okQ_not {P : List (Nat × List UInt8)} {k : Nat} {x : Nat × List UInt8} (hx : P[k]? = some x) (hn : noQ (P.take k) x.1 x.2.length = true) : ¬ okQ P := fun h => by
  rw [h k x hx] at hn; cases hn
def spU (i : Nat) : UInt8 := UInt8.ofNat ((201 - 3 * (i : Int)) % 256).toNat
def spB (k : Nat) : List UInt8 := (List.range (k + 70)).map spU
theorem spB_len (k : Nat) : (spB k).length = k + 70 := by simp [spB]
theorem spU_val (i : Nat) : ((spU i).toNat : Int) = (201 - 3 * (i : Int)) % 256 := by
  unfold spU
  rw [UInt8.toNat_ofNat']
  have h1 := Int.emod_nonneg (201 - 3 * (i : Int)) (by decide : (256 : Int) ≠ 0)
  have h2 := Int.emod_lt_of_pos (201 - 3 * (i : Int)) (by decide : (0 : Int) < 256)
  omega
def widN (w : Int) : Nat := if w = 8 then 1 else if w = 16 then 2 else if w = 32 then 4 else 8
theorem StoreE.mod {B s : Nat} {v1 v2 : Value} {X Y : List Rw} {m at_ n x q : Nat} {w w' : World} {e : Ending} (h : StoreE B s v1 v2 X Y m at_ n q w e w') (hq : q = x % 2 ^ (8 * n)) : StoreE B s v1 v2 X Y m at_ n x w e w' := by
  subst hq
  unfold StoreE at h ⊢
  rw [bysN_mod x n n (Nat.le_refl _)] at h
  exact h
set_option maxHeartbeats 2000000 in
theorem Load_any (w : World) (B s : Nat) (v1 v2 : Value) (X Y : List Rw) (m at_ : Nat) (wd : Int) (h : SpD B w s v1 v2 X Y m) (ha : at_ < 18446744073709551616) :
    Calls Tryz.prog 28 #[.pointer (some ⟨s, 0, none⟩), .int .u64 at_, .int .i64 wd] w fun e w' => e = .returned (.tuple #[.int .u64 ((LoadP (flat X) at_ (widN wd)).1 : Nat), .int .i64 (LoadP (flat X) at_ (widN wd)).2]) ∧ Out w w' := by
  by_cases h8 : wd = 8
  · subst h8
    have hwd : widN 8 = 1 := rfl
    have C := hidOf (load8_any w B s v1 v2 X Y m at_ h ha)
    rw [hwd]
    generalize (LoadP (flat X) at_ 1).1 = q at *
    generalize (LoadP (flat X) at_ 1).2 = e2 at *
    clear h hwd
    go_enter Tryz.func28, Tryz.ntmps28
    go_wp2_with (go_at_call 59; refine C.out.mono ?_; rintro e w1 ⟨rfl, ho1⟩; have O1 := hidOf ho1; clear ho1)
    refine bodyPost_ret (results_tmp2 rfl _ _ _) rfl ?_
    exact ⟨rfl, O1.out⟩
  · by_cases h16 : wd = 16
    · subst h16
      have hwd : widN 16 = 2 := rfl
      have C := hidOf (load16_any w B s v1 v2 X Y m at_ h ha)
      rw [hwd]
      generalize (LoadP (flat X) at_ 2).1 = q at *
      generalize (LoadP (flat X) at_ 2).2 = e2 at *
      clear h hwd
      go_enter Tryz.func28, Tryz.ntmps28
      go_wp2_with (go_at_call 60; refine C.out.mono ?_; rintro e w1 ⟨rfl, ho1⟩; have O1 := hidOf ho1; clear ho1)
      refine bodyPost_ret (results_tmp2 rfl _ _ _) rfl ?_
      exact ⟨rfl, O1.out⟩
    · by_cases h32 : wd = 32
      · subst h32
        have hwd : widN 32 = 4 := rfl
        have C := hidOf (load32_any w B s v1 v2 X Y m at_ h ha)
        rw [hwd]
        generalize (LoadP (flat X) at_ 4).1 = q at *
        generalize (LoadP (flat X) at_ 4).2 = e2 at *
        clear h hwd
        go_enter Tryz.func28, Tryz.ntmps28
        go_wp2_with (go_at_call 61; refine C.out.mono ?_; rintro e w1 ⟨rfl, ho1⟩; have O1 := hidOf ho1; clear ho1)
        refine bodyPost_ret (results_tmp2 rfl _ _ _) rfl ?_
        exact ⟨rfl, O1.out⟩
      · have hwd : widN wd = 8 := by simp [widN, h8, h16, h32]
        have e8 : (wd == 8) = false := by simpa using h8
        have e16 : (wd == 16) = false := by simpa using h16
        have e32 : (wd == 32) = false := by simpa using h32
        have C := hidOf (load64_any w B s v1 v2 X Y m at_ h ha)
        rw [hwd]
        generalize (LoadP (flat X) at_ 8).1 = q at *
        generalize (LoadP (flat X) at_ 8).2 = e2 at *
        clear h hwd
        go_enter Tryz.func28, Tryz.ntmps28
        go_wp2_with (go_at_call 62; refine C.out.mono ?_; rintro e w1 ⟨rfl, ho1⟩; have O1 := hidOf ho1; clear ho1)
        refine bodyPost_ret (results_tmp2 rfl _ _ _) rfl ?_
        exact ⟨rfl, O1.out⟩
set_option maxHeartbeats 2000000 in
theorem Store_any (w : World) (B s : Nat) (v1 v2 : Value) (X Y : List Rw) (m at_ x : Nat) (wd : Int) (h : SpD B w s v1 v2 X Y m) (ha : at_ < 18446744073709551616) (hx : x < 18446744073709551616) :
    Calls Tryz.prog 30 #[.pointer (some ⟨s, 0, none⟩), .int .u64 at_, .int .i64 wd, .int .u64 x] w fun e w' => StoreE B s v1 v2 X Y m at_ (widN wd) x w e w' := by
  by_cases h8 : wd = 8
  · subst h8
    have hwd : widN 8 = 1 := rfl
    have C := store8_any w B s v1 v2 X Y m at_ (x % 256) h ha (by omega)
    rw [show ((x % 256 : Nat) : Int) = (x : Int) % 256 by omega] at C
    have C := hidOf C
    rw [hwd]
    clear h hwd
    go_enter Tryz.func30, Tryz.ntmps30
    go_wp2_with (go_at_call 63; refine C.out.mono ?_; intro e w1 hst; obtain ⟨r1, hr1⟩ : ∃ r1, e = .returned (.int .i64 r1) := (by rcases hst with ⟨_, h9, _⟩ | ⟨_, _, _, h9, _⟩; exact ⟨_, h9⟩; exact ⟨_, h9⟩); subst hr1; have HST := hidOf hst; clear hst)
    go_ret
    exact HST.out.mod (by rfl)
  · by_cases h16 : wd = 16
    · subst h16
      have hwd : widN 16 = 2 := rfl
      have C := store16_any w B s v1 v2 X Y m at_ (x % 65536) h ha (by omega)
      rw [show ((x % 65536 : Nat) : Int) = (x : Int) % 65536 by omega] at C
      have C := hidOf C
      rw [hwd]
      clear h hwd
      go_enter Tryz.func30, Tryz.ntmps30
      go_wp2_with (go_at_call 64; refine C.out.mono ?_; intro e w1 hst; obtain ⟨r1, hr1⟩ : ∃ r1, e = .returned (.int .i64 r1) := (by rcases hst with ⟨_, h9, _⟩ | ⟨_, _, _, h9, _⟩; exact ⟨_, h9⟩; exact ⟨_, h9⟩); subst hr1; have HST := hidOf hst; clear hst)
      go_ret
      exact HST.out.mod (by rfl)
    · by_cases h32 : wd = 32
      · subst h32
        have hwd : widN 32 = 4 := rfl
        have C := store32_any w B s v1 v2 X Y m at_ (x % 4294967296) h ha (by omega)
        rw [show ((x % 4294967296 : Nat) : Int) = (x : Int) % 4294967296 by omega] at C
        have C := hidOf C
        rw [hwd]
        clear h hwd
        go_enter Tryz.func30, Tryz.ntmps30
        go_wp2_with (go_at_call 65; refine C.out.mono ?_; intro e w1 hst; obtain ⟨r1, hr1⟩ : ∃ r1, e = .returned (.int .i64 r1) := (by rcases hst with ⟨_, h9, _⟩ | ⟨_, _, _, h9, _⟩; exact ⟨_, h9⟩; exact ⟨_, h9⟩); subst hr1; have HST := hidOf hst; clear hst)
        go_ret
        exact HST.out.mod (by rfl)
      · have hwd : widN wd = 8 := by simp [widN, h8, h16, h32]
        have e8 : (wd == 8) = false := by simpa using h8
        have e16 : (wd == 16) = false := by simpa using h16
        have e32 : (wd == 32) = false := by simpa using h32
        have C := store64_any w B s v1 v2 X Y m at_ (x) h ha (by omega)
        have C := hidOf C
        rw [hwd]
        clear h hwd
        go_enter Tryz.func30, Tryz.ntmps30
        go_wp2_with (go_at_call 66; refine C.out.mono ?_; intro e w1 hst; obtain ⟨r1, hr1⟩ : ∃ r1, e = .returned (.int .i64 r1) := (by rcases hst with ⟨_, h9, _⟩ | ⟨_, _, _, h9, _⟩; exact ⟨_, h9⟩; exact ⟨_, h9⟩); subst hr1; have HST := hidOf hst; clear hst)
        go_ret
        exact HST.out.mod (by show x = x % 18446744073709551616; omega)
theorem run_one {r : RI} {F E : List Rg} (h : Run [r] F E) (hd : ¬ r.d = []) : ∃ x, F = [x] ∧ E = [] ∧ x.f = r.f ∧ x.d = r.d := by
  generalize hL : [r] = L at h
  cases h with
  | nil => cases hL
  | addE L F E E' r' x h1 h2 h3 h4 h5 h6 =>
    have : L = [] ∧ r = r' := by
      cases L with
      | nil => simp at hL; exact ⟨rfl, hL⟩
      | cons a L => simp at hL
    obtain ⟨rfl, rfl⟩ := this
    exact absurd h3 hd
  | addF L F E F' r' x h1 h2 h3 h4 h5 h6 =>
    have : L = [] ∧ r = r' := by
      cases L with
      | nil => simp at hL; exact ⟨rfl, hL⟩
      | cons a L => simp at hL
    obtain ⟨rfl, rfl⟩ := this
    have hne : F = [] ∧ E = [] := by
      generalize hL2 : ([] : List RI) = L at h1
      cases h1 with
      | nil => exact ⟨rfl, rfl⟩
      | addE L _ _ _ _ _ _ _ _ _ _ _ => cases L <;> simp at hL2
      | addF L _ _ _ _ _ _ _ _ _ _ _ => cases L <;> simp at hL2
    obtain ⟨rfl, rfl⟩ := hne
    obtain ⟨P, Q, e1, e2, _, _⟩ := h6
    obtain ⟨rfl, rfl⟩ := List.append_eq_nil_iff.1 e1.symm
    exact ⟨x, e2, rfl, h4, h5⟩
def rA (q : Nat) : RI := ⟨16, some ⟨q, 0, none⟩, 3, [1, 2, 3]⟩
theorem new_awake {w w' : World} {q : Nat} {e : Ending} (h : NewE [rA q] w e w') : ∃ s v1 v2 X Y x, e = .returned (.tuple #[.pointer (some ⟨s, 0, none⟩), .int .i64 0]) ∧ SpD w.heap.size w' s v1 v2 X Y 1 ∧ Out w w' ∧ flat X = [x] ∧ x.f = 16 ∧ x.d = [1, 2, 3] := by
  rcases h with ⟨_, _, k, r, F, E, hk, hr, hno⟩ | ⟨s, v1, v2, X, Y, he, hsp, ho, hr⟩
  · exfalso
    have hk0 : k = 0 := by
      have := (List.getElem?_eq_some_iff.1 hk).1
      simp at this; exact this
    subst hk0
    simp at hk
    subst hk
    simp at hr
    have hne : F = [] ∧ E = [] := by
      generalize hL2 : ([] : List RI) = L at hr
      cases hr with
      | nil => exact ⟨rfl, rfl⟩
      | addE L _ _ _ _ _ _ _ _ _ _ _ => cases L <;> simp at hL2
      | addF L _ _ _ _ _ _ _ _ _ _ _ => cases L <;> simp at hL2
    obtain ⟨rfl, rfl⟩ := hne
    revert hno
    simp [noP, rA, mayR, clP, upF]
  · obtain ⟨x, h1, h2, h3, h4⟩ := run_one hr (by simp [rA])
    exact ⟨s, v1, v2, X, Y, x, he, hsp, ho, h1, h3, h4⟩
theorem acP_awake {x : Rg} (hf : x.f = 16) (hd : x.d.length = 3) (n : Nat) (hn : n ≤ 2) : acP [x] 17 n = some (x, 1) := by
  have hu : upF [x] 17 = some x := upF_some (P := []) (Q := []) (by omega) (by simp)
  unfold acP
  rw [hu]
  simp only
  rw [hf, hd, if_pos (by omega)]
set_option maxHeartbeats 2000000 in
set_option maxRecDepth 100000 in
theorem awake_any (w : World) : Calls Tryz.prog 9 #[] w fun e w' => e = .returned (.bool true) ∧ Out w w' := by
  obtain ⟨wA, HA, bA, cA0, cA1, oA⟩ : ∃ wA, Hid (wA = (w.alloc (.cells #[.int .u8 1, .int .u8 2, .int .u8 3] 5)).alloc (.cells #[.int .u64 16, .slice (some ⟨w.heap.size, 0, none⟩) 3 3] 36)) ∧ wA.heap[w.heap.size]? = some (.cells #[.int .u8 1, .int .u8 2, .int .u8 3] 5 (0, 0)) ∧ wA.cell? ⟨w.heap.size + 1, 0, none⟩ = some (.int .u64 16) ∧ wA.cell? ⟨w.heap.size + 1, 1, none⟩ = some (.slice (some ⟨w.heap.size, 0, none⟩) 3 3) ∧ Out w wA := by
    refine ⟨_, rfl, blk_out (heap_alloc_new w _) ((Out.refl _).alloc _), ?_, ?_, ((Out.refl w).alloc _).alloc _⟩
    · rw [cell_fresh _ _ _ 0 _ (size_alloc w _).symm]; rfl
    · rw [cell_fresh _ _ _ 1 _ (size_alloc w _).symm]; rfl
  have hin : InR wA (some ⟨w.heap.size + 1, 0, none⟩) [rA w.heap.size] := .inr ⟨w.heap.size + 1, 0, rfl, fun i x hx => by
    have hi : i = 0 := by
      have := (List.getElem?_eq_some_iff.1 hx).1
      simp at this; exact this
    subst hi
    simp at hx
    subst hx
    refine ⟨cA0, cA1, .inr ⟨⟨w.heap.size, 0, none⟩, rfl, fun j u hj => ?_⟩⟩
    rw [add_B, Nat.zero_add, cell_B bA]
    rw [← hj]
    match j with
    | 0 => rfl
    | 1 => rfl
    | 2 => rfl
    | j + 3 => rfl⟩
  have NW := hidOf (New_any wA (some ⟨w.heap.size + 1, 0, none⟩) 1 [rA w.heap.size] hin (by intro x hx; simp at hx; subst hx; exact ⟨by show (16 : Nat) < 18446744073709551616; decide, by show (3 : Nat) ≤ 140737488355328; decide⟩) (by show (1 : Nat) ≤ 5864062014000; decide))
  have OA := hidOf oA
  clear bA cA0 cA1 oA hin
  go_enter Tryz.func9, Tryz.ntmps9
  go_upto_region 2 with (go_at_call 16; rw [← HA.out]; refine NW.out.mono ?_; intro e w1 hne; obtain ⟨s, v1, v2, X, Y, x, rfl, hsp, ho1, hX, hxf, hxd⟩ := new_awake hne; have SP := hidOf hsp; have O1 := hidOf ho1; have HX := hidOf hX; have HF := hidOf hxf; have HD := hidOf hxd; clear hne hsp ho1 hX hxf hxd)
  have SC : Hid (Calls Tryz.prog 30 #[.pointer (some ⟨s, 0, none⟩), .int .u64 17, .int .i64 16, .int .u64 1541] w1 fun e w' => e = .returned (.int .i64 0) ∧ SpD wA.heap.size w' s v1 v2 (updX 16 [1, 5, 6] X) Y 1 ∧ Chg (dbs (flat X ++ flat Y)) w1 w') := hidOf (by
    refine (Store_any w1 wA.heap.size s v1 v2 X Y 1 17 1541 16 SP.out (by decide) (by decide)).mono ?_
    have hacc : acP (flat X) 17 (widN 16) = some (x, 1) := by rw [HX.out]; exact acP_awake HF.out (by rw [HD.out]; rfl) 2 (by decide)
    rintro e w' (⟨h9, _⟩ | ⟨y, o, h9, he, hsp, hc⟩)
    · rw [hacc] at h9; cases h9
    · rw [hacc] at h9
      cases h9
      refine ⟨he, ?_, hc⟩
      have e1 : layL x.d 1 (bysN 1541 (widN 16)) = [1, 5, 6] := by rw [HD.out]; decide
      rw [HF.out, e1] at hsp
      exact hsp)
  go_upto_region 5 with (go_at_call 30; refine SC.out.mono ?_; rintro e w2 ⟨rfl, hsp2, hc2⟩; have SP2 := hidOf hsp2; have C2 := hidOf hc2; clear hsp2 hc2)
  have LC : Hid (Calls Tryz.prog 28 #[.pointer (some ⟨s, 0, none⟩), .int .u64 17, .int .i64 8] w2 fun e w' => e = .returned (.tuple #[.int .u64 5, .int .i64 0]) ∧ Out w2 w') := hidOf (by
    refine (Load_any w2 wA.heap.size s v1 v2 (updX 16 [1, 5, 6] X) Y 1 17 8 SP2.out (by decide)).mono ?_
    have hfl : flat (updX 16 [1, 5, 6] X) = [{ x with d := [1, 5, 6] }] := by
      rw [flat_updX, HX.out]
      simp [updR, HF.out]
    have hlp : LoadP (flat (updX 16 [1, 5, 6] X)) 17 (widN 8) = (5, 0) := by
      rw [hfl, LoadP, show widN 8 = 1 from rfl, acP_awake (x := { x with d := [1, 5, 6] }) HF.out rfl 1 (by decide)]
      rfl
    rw [hlp]
    rintro e w' ⟨he, ho⟩
    exact ⟨he, ho⟩)
  go_wp2_with (go_at_call 28; refine LC.out.mono ?_; rintro e w3 ⟨rfl, ho3⟩; have O3 := hidOf ho3; clear ho3)
  go_ret
  have hOw2 : Out wA w2 := Chg.out C2.out O1.out (fun k hk => by
    obtain ⟨z, hz, hb⟩ := hk
    exact (DaI.blk (SP.out.da z hz) hb).1)
  exact ⟨by simp, (OA.out.trans hOw2).trans O3.out⟩
def fitQ (at_ k : Nat) (p : Nat × List UInt8) : Bool := decide (p.1 ≤ at_) && decide (at_ - p.1 < p.2.length) && decide (k ≤ p.2.length - (at_ - p.1))
theorem fitQ_iff {at_ k : Nat} {p : Nat × List UInt8} : fitQ at_ k p = true ↔ p.1 ≤ at_ ∧ at_ - p.1 < p.2.length ∧ k ≤ p.2.length - (at_ - p.1) := by
  simp [fitQ, and_assoc]
def fndO (P : List (Nat × List UInt8)) (at_ k : Nat) : Option Nat := P.findIdx? (fitQ at_ k)
def fndI (P : List (Nat × List UInt8)) (at_ k : Nat) : Int := match fndO P at_ k with | none => -1 | some i => (i : Int)
theorem fnd_at {P : List (Nat × List UInt8)} {at_ k i : Nat} {p : Nat × List UInt8} (hi : P[i]? = some p) (hp : fitQ at_ k p = true) (hn : ∀ (j : Nat) q, j < i → P[j]? = some q → fitQ at_ k q = false) : fndO P at_ k = some i := by
  obtain ⟨hl, he⟩ := List.getElem?_eq_some_iff.1 hi
  refine List.findIdx?_eq_some_iff_getElem.2 ⟨hl, by rw [he]; exact hp, fun j hj => ?_⟩
  have h1 : j < P.length := by omega
  have := hn j P[j] hj (List.getElem?_eq_getElem h1)
  rw [this]; simp
theorem fnd_no {P : List (Nat × List UInt8)} {at_ k : Nat} (hn : ∀ (j : Nat) q, P[j]? = some q → fitQ at_ k q = false) : fndO P at_ k = none := by
  refine List.findIdx?_eq_none_iff.2 (fun x hx => ?_)
  obtain ⟨j, hj, e⟩ := List.getElem_of_mem hx
  exact hn j x (by rw [List.getElem?_eq_getElem hj, e])
theorem fnd_some {P : List (Nat × List UInt8)} {at_ k i : Nat} (h : fndO P at_ k = some i) : ∃ p, P[i]? = some p ∧ fitQ at_ k p = true := by
  obtain ⟨hl, hp, _⟩ := List.findIdx?_eq_some_iff_getElem.1 h
  exact ⟨_, List.getElem?_eq_getElem hl, hp⟩
theorem fnd_none {P : List (Nat × List UInt8)} {at_ k : Nat} (h : fndO P at_ k = none) {p : Nat × List UInt8} (hp : p ∈ P) : fitQ at_ k p = false := List.findIdx?_eq_none_iff.1 h p hp
theorem fnd_acP {F E : List Rg} {P : List (Nat × List UInt8)} (h : SpOk F E) (hp : P.Perm ((F ++ E).map fdR)) (at_ k : Nat) :
    (fndO P at_ k = none ∧ acP F at_ k = none) ∨ ∃ i y, fndO P at_ k = some i ∧ P[i]? = some (fdR y) ∧ y ∈ F ∧ acP F at_ k = some (y, at_ - y.f) ∧ y.f ≤ at_ ∧ at_ - y.f < y.d.length ∧ k ≤ y.d.length - (at_ - y.f) := by
  cases hf : fndO P at_ k with
  | none =>
    refine .inl ⟨rfl, ?_⟩
    cases ha : acP F at_ k with
    | none => rfl
    | some yo =>
      obtain ⟨y, o⟩ := yo
      obtain ⟨h1, h2, h3, h4⟩ := acP_some h.sf ha
      have h5 := fnd_none hf (p := fdR y) (hp.mem_iff.2 (List.mem_map.2 ⟨y, List.mem_append_left _ h1, rfl⟩))
      have h6 : fitQ at_ k (fdR y) = true := fitQ_iff.2 (by show y.f ≤ at_ ∧ at_ - y.f < y.d.length ∧ k ≤ y.d.length - (at_ - y.f); rw [show at_ - y.f = o by omega]; exact ⟨by omega, h3, h4⟩)
      rw [h5] at h6; cases h6
  | some i =>
    obtain ⟨p, hpi, hfit⟩ := fnd_some hf
    have hm := hp.mem_iff.1 (List.mem_of_getElem? hpi)
    obtain ⟨y, hy, rfl⟩ := List.mem_map.1 hm
    have h1 := fitQ_iff.1 hfit
    simp only [fdR] at h1
    rcases List.mem_append.1 hy with hy | hy
    · refine .inr ⟨i, y, rfl, hpi, hy, ?_, h1⟩
      have := acP_in h hy (o := at_ - y.f) (n := k) h1.2.1 h1.2.2
      rwa [show y.f + (at_ - y.f) = at_ by omega] at this
    · have := (h.ed y hy).1
      rw [this] at h1
      simp at h1
def LdQ (P : List (Nat × List UInt8)) (at_ k : Nat) : Nat × Int := match fndO P at_ k with | none => (0, 200) | some i => (numL ((((P[i]?).getD (0, [])).2.drop (at_ - ((P[i]?).getD (0, [])).1)).take k), 0)
theorem ldQ_eq {F E : List Rg} {P : List (Nat × List UInt8)} (h : SpOk F E) (hp : P.Perm ((F ++ E).map fdR)) (at_ k : Nat) : LdQ P at_ k = LoadP F at_ k := by
  rcases fnd_acP h hp at_ k with ⟨h1, h2⟩ | ⟨i, y, h1, h2, _, h3, _⟩
  · simp only [LdQ, LoadP, h1, h2]
  · simp only [LdQ, LoadP, h1, h2, h3, Option.getD_some, fdR]
def ByQ (P : List (Nat × List UInt8)) (at_ : Nat) (n : Int) : List UInt8 × Int :=
  if n = 0 then ([], 0) else if n < 0 then ([], 200) else match fndO P at_ n.toNat with | none => ([], 200) | some i => ((((P[i]?).getD (0, [])).2.drop (at_ - ((P[i]?).getD (0, [])).1)).take n.toNat, 0)
def putP (P : List (Nat × List UInt8)) (at_ i : Nat) (b : List UInt8) : List (Nat × List UInt8) := match P[i]? with | none => P | some p => P.set i (p.1, layL p.2 (at_ - p.1) b)
def PutQ (P : List (Nat × List UInt8)) (at_ : Nat) (b : List UInt8) : List (Nat × List UInt8) × Int :=
  if b = [] then (P, 0) else match fndO P at_ b.length with | none => (P, 200) | some i => (putP P at_ i b, 0)
def RemQ (P : List (Nat × List UInt8)) (f : Nat) : List (Nat × List UInt8) × Int := if P.any (fun p => p.1 == f) then (P.filter (fun p => !(p.1 == f)), 0) else (P, 201)
theorem set_upd {P : List (Nat × List UInt8)} (hd : P.Pairwise (fun x y => x.1 ≠ y.1)) {i : Nat} {p : Nat × List UInt8} (hi : P[i]? = some p) (d : List UInt8) : P.set i (p.1, d) = P.map (updP p.1 d) := by
  apply List.ext_getElem?
  intro j
  rw [List.getElem?_set, List.getElem?_map]
  have hil := (List.getElem?_eq_some_iff.1 hi).1
  by_cases hij : i = j
  · subst hij
    rw [if_pos rfl, if_pos hil, hi]
    simp [updP]
  · rw [if_neg hij]
    cases hj : P[j]? with
    | none => rfl
    | some q =>
      have hjl := (List.getElem?_eq_some_iff.1 hj).1
      have hne : q.1 ≠ p.1 := by
        rcases Nat.lt_or_gt_of_ne hij with h | h
        · have := List.pairwise_iff_getElem.1 hd i j hil hjl h
          rw [(List.getElem?_eq_some_iff.1 hi).2, (List.getElem?_eq_some_iff.1 hj).2] at this
          exact fun e => this e.symm
        · have := List.pairwise_iff_getElem.1 hd j i hjl hil h
          rw [(List.getElem?_eq_some_iff.1 hi).2, (List.getElem?_eq_some_iff.1 hj).2] at this
          exact this
      simp [updP, hne]
theorem dif_perm {F E : List Rg} {P : List (Nat × List UInt8)} (h : SpOk F E) (hp : P.Perm ((F ++ E).map fdR)) : P.Pairwise (fun x y => x.1 ≠ y.1) :=
  hp.symm.pairwise (List.pairwise_map.2 h.dif) (fun {x y} hxy e => hxy e.symm)
theorem putP_perm {F E : List Rg} {P : List (Nat × List UInt8)} (h : SpOk F E) (hp : P.Perm ((F ++ E).map fdR)) {i at_ : Nat} {y : Rg} (hi : P[i]? = some (fdR y)) (hy : y ∈ F) (b : List UInt8) : (putP P at_ i b).Perm (((F.map (updR y.f (layL y.d (at_ - y.f) b))) ++ E).map fdR) := by
  unfold putP
  rw [hi]
  show (P.set i (y.f, layL y.d (at_ - y.f) b)).Perm _
  have h1 := set_upd (dif_perm h hp) hi (layL y.d (at_ - y.f) b)
  rw [show (fdR y).1 = y.f from rfl] at h1
  rw [h1]
  refine (hp.map (updP y.f (layL y.d (at_ - y.f) b))).trans ?_
  rw [List.map_map, List.map_append, List.map_append, List.map_map]
  have e1 : F.map (updP y.f (layL y.d (at_ - y.f) b) ∘ fdR) = F.map (fdR ∘ updR y.f (layL y.d (at_ - y.f) b)) := List.map_congr_left (fun z _ => (fd_upd _ _ z).symm)
  have e2 : E.map (updP y.f (layL y.d (at_ - y.f) b) ∘ fdR) = E.map fdR := List.map_congr_left (fun z hz => by
    have : z.f ≠ y.f := fun e => h.ne y hy z hz e.symm
    simp [updP, fdR, this])
  rw [e1, e2]
theorem rem_perm {F E : List Rg} {P : List (Nat × List UInt8)} (hp : P.Perm ((F ++ E).map fdR)) (f : Nat) : (P.filter (fun p => !(p.1 == f))).Perm (((F.filter (fun x => !(x.f == f))) ++ (E.filter (fun x => !(x.f == f)))).map fdR) := by
  refine (hp.filter _).trans ?_
  rw [List.filter_map, ← List.filter_append]
  rfl
theorem rem_any {F E : List Rg} {P : List (Nat × List UInt8)} (hp : P.Perm ((F ++ E).map fdR)) (f : Nat) : P.any (fun p => p.1 == f) = (F.any (fun x => x.f == f) || E.any (fun x => x.f == f)) := by
  rw [any_perm hp, List.any_map, List.any_append]
  rfl
end Go.Proofs.YtekjfbmebekmeaaGreat
