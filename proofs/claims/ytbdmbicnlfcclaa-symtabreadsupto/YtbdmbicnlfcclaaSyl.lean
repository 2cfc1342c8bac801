import Derived.Test.YtbdmbicnlfcclaaSyk
namespace Go.Proofs.Ytbdmbicnlfcclaa
open Go.RowKit
set_option linter.unusedVariables false
set_option linter.unusedSimpArgs false
theorem results_row_tmp2 {P : Program} {fn : Func} {p u u' : Tmp} {ty : TypeId} (h : fn.results = #[.cell p ty, .tmp u, .tmp u']) (tmps : Array Value) (w : World) (g : Nat) (t : TypeId) (cs : Array Value) (fr : Nat × Nat) (d : TypeDesc)
    (hp : tmps.getD p undef = .pointer (some ⟨g, 0, none⟩)) (hg : w.heap[g]? = some (.cells cs t fr))
    (hu : P.underlying ty = some d) (hd : (match d with | .struct _ | .array _ _ => true | _ => false) = true) (hi : (P.info? ty).map (·.size) = some cs.size) :
    (results fn tmps).run P w = .ok (.tuple #[.agg cs, tmps.getD u undef, tmps.getD u' undef]) w := by
  have hp' : tmps[p]?.getD undef = .pointer (some ⟨g, 0, none⟩) := by simpa using hp
  simp [results, h, hp', asAddr, run_loadVar_row w g t ty cs fr d hg hu hd hi]
/-- an entry taken up -/
def teP (q : Rn) (l : List UInt8) : Option (Sy × Rn) × Nat × Int :=
  if fifP (nuB l 4 1) = 0 then (none, 4, 100) else if l[5]? ≠ some 0 then (none, 5, 100) else
    match ffP (fifP (nuB l 4 1)) (syB l) with
    | some a => (none, a, 100)
    | none => match tkS q (fifP (nuB l 4 1)) (syB l).va with
      | none => (none, 0, 101)
      | some q' => (some (syB l, q'), 0, 0)
/-- behind takeEntry -/
def TeEnd (w : World) (p : Nat) (o : Option (Sy × Rn) × Nat × Int) (e : Ending) (w' : World) : Prop := Chg (fun k => k = p) w w' ∧ ∃ s q', RB w' p q' ∧ e = .returned (.tuple #[.agg (Sy.ar s), .int .i64 (o.2.1 : Nat), .int .i64 o.2.2]) ∧ ∀ s2 q2, o.1 = some (s2, q2) → s = s2 ∧ q' = q2
set_option maxRecDepth 8000 in
set_option maxHeartbeats 4000000 in
theorem takeEntry_sort (w : World) (p : Nat) (q : Rn) (g off c : Nat) (l : List UInt8) (hq : RB w p q) (hg : g < w.heap.size) (h : BAt w g off l) (hl : l.length = 24) (hc : 24 ≤ c) (h0 : fifP (nuB l 4 1) = 0) : Calls Try.prog 35 #[.pointer (some ⟨p, 0, none⟩), .slice (some ⟨g, off, none⟩) 24 c] w fun e w' => TeEnd w p (teP q l) e w' := by
  have ht : teP q l = (none, 4, 100) := by unfold teP; rw [if_pos h0]
  rw [ht]
  clear ht
  have HO := hidOf ((Out.refl w).alloc (.cells #[.int .i64 0, .int .i64 0, .int .i64 0, .int .i64 0, .int .i64 0, .int .i64 0] 57))
  have CN := hidOf (fun wx (o : Out w wx) c' => num_cut (Nat.lt_of_lt_of_le hg o.size) (h.out hg o) 4 1 c' (by omega) (by omega))
  have CS := hidOf (fun wx => sortOf_any (nuB l 4 1) wx)
  rw [h0] at CS
  generalize nuB l 4 1 = n4 at *
  have hcI : (24 : Int) ≤ c := by omega
  have hc4 : (4 : Int) ≤ c := by omega
  have hne4 : ¬ c = 4 := by omega
  have hdd : decide (0 < 0) = false := rfl
  have HQ := hidOf hq
  clear hq hg h hl h0
  go_enter Try.func35, Try.ntmps35
  go_wp2_with (first | (go_at_call 48; refine (CN.out _ HO.out _).mono ?_; rintro e w1 ⟨rfl, hw⟩; subst hw) | (go_at_call 44; refine (CS.out _).mono ?_; rintro e w1 ⟨rfl, hw⟩; subst hw))
  refine bodyPost_ret (results_row_tmp2 rfl _ _ w.heap.size 57 _ (0, 0) _ rfl (heap_alloc_new _ _) Try.underlying57 rfl sizeSm) rfl ?_
  exact ⟨Chg.of_out HO.out, ⟨0, 0, 0, 0, 0, 0⟩, q, HQ.out.out HO.out, rfl, fun _ _ h => by cases h⟩
def set6 (w : World) (p : Nat) (s : Sy) : World := (((((w.setCell ⟨p, 0, none⟩ (.int .i64 s.na)).setCell ⟨p, 1, none⟩ (.int .i64 s.bi)).setCell ⟨p, 2, none⟩ (.int .i64 s.ki)).setCell ⟨p, 3, none⟩ (.int .i64 s.se)).setCell ⟨p, 4, none⟩ (.int .i64 s.va)).setCell ⟨p, 5, none⟩ (.int .i64 s.si)
def Zb (w : World) (p : Nat) : Prop := w.heap[p]? = some (.cells #[.int .i64 0, .int .i64 0, .int .i64 0, .int .i64 0, .int .i64 0, .int .i64 0] 57 (0, 0))
def Fr6 (w : World) (p : Nat) : Prop := w.frozen? ⟨p, 0, none⟩ = false ∧ w.frozen? ⟨p, 1, none⟩ = false ∧ w.frozen? ⟨p, 2, none⟩ = false ∧ w.frozen? ⟨p, 3, none⟩ = false ∧ w.frozen? ⟨p, 4, none⟩ = false ∧ w.frozen? ⟨p, 5, none⟩ = false
def Ce6 (w : World) (p : Nat) : Prop := w.cell? ⟨p, 0, none⟩ = some (.int .i64 0) ∧ w.cell? ⟨p, 1, none⟩ = some (.int .i64 0) ∧ w.cell? ⟨p, 2, none⟩ = some (.int .i64 0) ∧ w.cell? ⟨p, 3, none⟩ = some (.int .i64 0) ∧ w.cell? ⟨p, 4, none⟩ = some (.int .i64 0) ∧ w.cell? ⟨p, 5, none⟩ = some (.int .i64 0)
theorem Zb.frozen {w : World} {p : Nat} (h : Zb w p) : Fr6 w p := by
  unfold Zb at h
  simp [Fr6, World.frozen?, h]
theorem Zb.cells {w : World} {p : Nat} (h : Zb w p) : Ce6 w p := ⟨box_cell h 0, box_cell h 1, box_cell h 2, box_cell h 3, box_cell h 4, box_cell h 5⟩
theorem Zb.later {w w' : World} {p : Nat} (h : Zb w p) (o : Out w w') : Zb w' p := (o.block p (Array.getElem?_eq_some_iff.1 h).1).trans h
theorem Zb.chg {w w' : World} {p r : Nat} (h : Zb w p) (c : Chg (fun k => k = r) w w') (hn : p ≠ r) : Zb w' p := (c.block p (Array.getElem?_eq_some_iff.1 h).1 hn).trans h
theorem set6_heap {w : World} {p : Nat} (s : Sy) (h : Zb w p) : (set6 w p s).heap[p]? = some (.cells (Sy.ar s) 57 (0, 0)) := by
  unfold Zb at h
  simp [set6, Sy.ar, World.setCell, Array.getElem?_modify, h]
theorem set6_far {w : World} {p r : Nat} (s : Sy) (h : p ≠ r) : (set6 w p s).heap[r]? = w.heap[r]? := by
  simp [set6, World.setCell, Array.getElem?_modify, h]
theorem set6_chg {w wx : World} {p pr : Nat} (s : Sy) (h : Chg (fun k => k = p) w wx) (hp : w.heap.size ≤ pr) : Chg (fun k => k = p) w (set6 wx pr s) := by
  have h2 : Chg (fun k => k = p ∨ k = pr) w wx := h.mono (fun x hx _ => .inl hx)
  have h3 : Chg (fun k => k = p ∨ k = pr) w (set6 wx pr s) := by
    unfold set6
    repeat (refine Chg.setCell ?_ (.inr rfl) _)
    exact h2
  exact h3.mono (fun x hx hl => hx.resolve_right (by omega))
/-- behind a return of takeEntry -/
theorem te_end {w wx : World} {p pr : Nat} {q' : Rn} {o : Option (Sy × Rn) × Nat × Int} (s : Sy) (c : Chg (fun k => k = p) w wx) (hp : p < w.heap.size) (hpr : w.heap.size ≤ pr) (r : RB wx p q') (h : ∀ s2 q2, o.1 = some (s2, q2) → s = s2 ∧ q' = q2) : TeEnd w p o (.returned (.tuple #[.agg (Sy.ar s), .int .i64 (o.2.1 : Nat), .int .i64 o.2.2])) (set6 wx pr s) :=
  ⟨set6_chg s c hpr, s, q', (set6_far s (by omega)).trans r, rfl, h⟩
set_option maxRecDepth 8000 in
set_option maxHeartbeats 4000000 in
theorem takeEntry_zero (w : World) (p : Nat) (q : Rn) (g off c : Nat) (l : List UInt8) (hq : RB w p q) (hg : g < w.heap.size) (h : BAt w g off l) (hl : l.length = 24) (hc : 24 ≤ c) (h0 : 0 < fifP (nuB l 4 1)) (h5 : l[5]? ≠ some 0) : Calls Try.prog 35 #[.pointer (some ⟨p, 0, none⟩), .slice (some ⟨g, off, none⟩) 24 c] w fun e w' => TeEnd w p (teP q l) e w' := by
  have ht : teP q l = (none, 5, 100) := by unfold teP; rw [if_neg (by omega), if_pos h5]
  rw [ht]
  clear ht
  obtain ⟨W, hW⟩ : ∃ W, W = w.alloc (.cells #[.int .i64 0, .int .i64 0, .int .i64 0, .int .i64 0, .int .i64 0, .int .i64 0] 57) := ⟨_, rfl⟩
  obtain ⟨pr, hpr⟩ : ∃ pr, pr = w.heap.size := ⟨_, rfl⟩
  have HO : Hid (Out w W) := hidOf (by rw [hW]; exact (Out.refl w).alloc _)
  have HZ : Hid (Zb W pr) := hidOf (by rw [hW, hpr]; exact heap_alloc_new w _)
  have CN := hidOf (fun wx (o : Out w wx) c' => num_cut (Nat.lt_of_lt_of_le hg o.size) (h.out hg o) 4 1 c' (by omega) (by omega))
  have CS : Hid (∀ wx, Calls Try.prog 44 #[.int .i64 (nuB l 4 1)] wx fun e w' => e = .returned (.tuple #[kv (fifP (nuB l 4 1)), .bool true]) ∧ w' = wx) := fun wx => (sortOf_any _ wx).mono fun e w' ⟨he, ho⟩ => ⟨by rw [he, decide_eq_true h0], ho⟩
  obtain ⟨x, hx⟩ : ∃ x, l[5]? = some x := ⟨l[5], List.getElem?_eq_getElem (by omega)⟩
  have d5 := h.out hg HO.out 5 x hx
  have hk4 := fif_lt (nuB l 4 1)
  have hxn : ((x.toNat : Int) != 0) = true := by
    have : x.toNat ≠ 0 := fun e => h5 (by rw [hx]; congr 1; exact UInt8.toNat_inj.1 e)
    simp; omega
  generalize nuB l 4 1 = n4 at *
  generalize fifP n4 = k at *
  have hcI : (24 : Int) ≤ c := by omega
  have hc4 : (4 : Int) ≤ c := by omega
  have hne4 : ¬ c = 4 := by omega
  have HQ := hidOf hq
  have Hp := hidOf hq.lt
  have Hpr := hidOf (Nat.le_of_eq hpr.symm)
  have hk : k = 1 ∨ k = 2 ∨ k = 3 ∨ k = 4 := by omega
  clear hq hg h hl h0 hx hk4 h5
  rcases hk with rfl | rfl | rfl | rfl
  all_goals
    go_enter Try.func35, Try.ntmps35
    go_upto_region 1 with fail
    rw [← hW, ← hpr]
    clear hW hpr
    obtain ⟨r0, r1, r2, r3, r4, r5⟩ := HZ.out.frozen
    obtain ⟨z0, z1, z2, z3, z4, z5⟩ := HZ.out.cells
    go_wp2_with (first | (go_at_call 48; refine (CN.out _ HO.out _).mono ?_; rintro e w1 ⟨rfl, hw⟩; have hw := hw.symm; subst hw) | (go_at_call 44; refine (CS.out _).mono ?_; rintro e w1 ⟨rfl, hw⟩; have hw := hw.symm; subst hw))
    refine bodyPost_ret (results_row_tmp2 rfl _ _ pr 57 _ (0, 0) _ rfl (set6_heap ⟨0, 0, 0, 0, 0, 0⟩ HZ.out) Try.underlying57 rfl sizeSm) rfl ?_
    exact te_end (o := (none, 5, 100)) ⟨0, 0, 0, 0, 0, 0⟩ (Chg.of_out HO.out) Hp.out Hpr.out (HQ.out.out HO.out) (fun _ _ h => by cases h)
set_option maxRecDepth 8000 in
set_option maxHeartbeats 4000000 in
theorem takeEntry_fault (w : World) (p : Nat) (q : Rn) (g off c : Nat) (l : List UInt8) (hq : RB w p q) (hg : g < w.heap.size) (h : BAt w g off l) (hl : l.length = 24) (hc : 24 ≤ c) (h0 : 0 < fifP (nuB l 4 1)) (h5 : l[5]? = some 0) (at_ : Nat) (hf : ffP (fifP (nuB l 4 1)) (syB l) = some at_) : Calls Try.prog 35 #[.pointer (some ⟨p, 0, none⟩), .slice (some ⟨g, off, none⟩) 24 c] w fun e w' => TeEnd w p (teP q l) e w' := by
  have ht : teP q l = (none, at_, 100) := by unfold teP; rw [if_neg (by omega), if_neg (by simp [h5])]; simp only [hf]
  rw [ht]
  clear ht
  obtain ⟨W, hW⟩ : ∃ W, W = w.alloc (.cells #[.int .i64 0, .int .i64 0, .int .i64 0, .int .i64 0, .int .i64 0, .int .i64 0] 57) := ⟨_, rfl⟩
  obtain ⟨pr, hpr⟩ : ∃ pr, pr = w.heap.size := ⟨_, rfl⟩
  have HO : Hid (Out w W) := hidOf (by rw [hW]; exact (Out.refl w).alloc _)
  have HZ : Hid (Zb W pr) := hidOf (by rw [hW, hpr]; exact heap_alloc_new w _)
  have CN := hidOf (fun wx (o : Out w wx) c' => num_cut (Nat.lt_of_lt_of_le hg o.size) (h.out hg o) 4 1 c' (by omega) (by omega))
  have CS : Hid (∀ wx, Calls Try.prog 44 #[.int .i64 (nuB l 4 1)] wx fun e w' => e = .returned (.tuple #[kv (fifP (nuB l 4 1)), .bool true]) ∧ w' = wx) := fun wx => (sortOf_any _ wx).mono fun e w' ⟨he, ho⟩ => ⟨by rw [he, decide_eq_true h0], ho⟩
  obtain ⟨x, hx⟩ : ∃ x, l[5]? = some x := ⟨l[5], List.getElem?_eq_getElem (by omega)⟩
  have d5 := h.out hg HO.out 5 x hx
  have hk4 := fif_lt (nuB l 4 1)
  have hxn : ((x.toNat : Int) != 0) = false := by
    rw [hx] at h5
    rw [Option.some.inj h5]; rfl
  have CY : Hid (∀ wx, Out w wx → Calls Try.prog 49 #[.slice (some ⟨g, off, none⟩) 24 c] wx fun e w' => e = .returned (.agg (syB l).ar) ∧ Out wx w') := fun wx o => symbolOf_any wx g off c l (Nat.lt_of_lt_of_le hg o.size) (h.out hg o) hl hc
  have CF := hidOf (fun wx => fault_any (fifP (nuB l 4 1)) ⟨h0, hk4⟩ (syB l).na (syB l).bi (syB l).ki (syB l).se (syB l).va (syB l).si wx)
  have Hf := hidOf hf
  unfold Sy.ar at CY
  generalize (syB l) = s at *
  obtain ⟨na, bi, ki, se, va, si⟩ := s
  simp only at CY CF Hf
  rw [Hf.out] at CF
  simp only [Option.getD_some, Option.isSome_some] at CF
  generalize nuB l 4 1 = n4 at *
  generalize fifP n4 = k at *
  have hcI : (24 : Int) ≤ c := by omega
  have hc4 : (4 : Int) ≤ c := by omega
  have hne4 : ¬ c = 4 := by omega
  have HQ := hidOf hq
  have Hp := hidOf hq.lt
  have Hpr := hidOf (Nat.le_of_eq hpr.symm)
  have hk : k = 1 ∨ k = 2 ∨ k = 3 ∨ k = 4 := by omega
  clear hq hg h hl h0 hx hk4 h5 Hf hf
  rcases hk with rfl | rfl | rfl | rfl
  all_goals
    go_enter Try.func35, Try.ntmps35
    go_upto_region 1 with fail
    rw [← hW, ← hpr]
    clear hW hpr
    go_upto_region 7 with (first | (go_at_call 48; refine (CN.out _ HO.out _).mono ?_; rintro e w1 ⟨rfl, hw⟩; have hw := hw.symm; subst hw) | (go_at_call 44; refine (CS.out _).mono ?_; rintro e w1 ⟨rfl, hw⟩; have hw := hw.symm; subst hw) | (go_at_call 49; refine (CY.out _ HO.out).mono ?_; rintro e w2 ⟨rfl, hO⟩; have HO2 := hidOf hO; clear hO))
    obtain ⟨qb, hqb⟩ : ∃ qb, qb = w2.heap.size := ⟨_, rfl⟩
    have HX : Hid ((w2.alloc (.cells #[.int .i64 na, .int .i64 bi, .int .i64 ki, .int .i64 se, .int .i64 va, .int .i64 si] 57)).heap[qb]? = some (.cells #[.int .i64 na, .int .i64 bi, .int .i64 ki, .int .i64 se, .int .i64 va, .int .i64 si] 57 (0, 0))) := hidOf (by rw [hqb]; exact heap_alloc_new w2 _)
    have HOb := hidOf ((HO.out.trans HO2.out).alloc (.cells #[.int .i64 na, .int .i64 bi, .int .i64 ki, .int .i64 se, .int .i64 va, .int .i64 si] 57))
    have HZb := hidOf (HZ.out.later (HO2.out.alloc (.cells #[.int .i64 na, .int .i64 bi, .int .i64 ki, .int .i64 se, .int .i64 va, .int .i64 si] 57)))
    rw [← hqb]
    clear hqb HO2 d5 hxn
    generalize w2.alloc (.cells #[.int .i64 na, .int .i64 bi, .int .i64 ki, .int .i64 se, .int .i64 va, .int .i64 si] 57) = wb at *
    have k0 := box_cell HX.out 0
    have k1 := box_cell HX.out 1
    have k2 := box_cell HX.out 2
    have k3 := box_cell HX.out 3
    have k4 := box_cell HX.out 4
    have k5 := box_cell HX.out 5
    simp only [List.getElem?_toArray, List.getElem?_cons_zero, List.getElem?_cons_succ] at k0 k1 k2 k3 k4 k5
    go_wp2_with (first | (go_at_call 46; refine (CF.out _).mono ?_; rintro e w3 ⟨rfl, hO⟩; have HO3 := hidOf (HOb.out.trans hO); have HZ3 := hidOf (HZb.out.later hO); clear hO; obtain ⟨r0, r1, r2, r3, r4, r5⟩ := HZ3.out.frozen; obtain ⟨z0, z1, z2, z3, z4, z5⟩ := HZ3.out.cells))
    refine bodyPost_ret (results_row_tmp2 rfl _ _ pr 57 _ (0, 0) _ rfl (set6_heap ⟨0, 0, 0, 0, 0, 0⟩ HZ3.out) Try.underlying57 rfl sizeSm) rfl ?_
    exact te_end (o := (none, at_, 100)) ⟨0, 0, 0, 0, 0, 0⟩ (Chg.of_out HO3.out) Hp.out Hpr.out (HQ.out.out HO3.out) (fun _ _ h => by cases h)
set_option maxRecDepth 8000 in
set_option maxHeartbeats 4000000 in
theorem takeEntry_order (w : World) (p : Nat) (q : Rn) (g off c : Nat) (l : List UInt8) (hq : RB w p q) (hg : g < w.heap.size) (h : BAt w g off l) (hl : l.length = 24) (hc : 24 ≤ c) (h0 : 0 < fifP (nuB l 4 1)) (h5 : l[5]? = some 0) (hf : ffP (fifP (nuB l 4 1)) (syB l) = none) (hqc : 0 ≤ q.c ∧ q.c ≤ 10000000000000) (ht2 : tkS q (fifP (nuB l 4 1)) (syB l).va = none) : Calls Try.prog 35 #[.pointer (some ⟨p, 0, none⟩), .slice (some ⟨g, off, none⟩) 24 c] w fun e w' => TeEnd w p (teP q l) e w' := by
  have ht : teP q l = (none, 0, 101) := by unfold teP; rw [if_neg (by omega), if_neg (by simp [h5])]; simp only [hf, ht2]
  rw [ht]
  clear ht
  obtain ⟨W, hW⟩ : ∃ W, W = w.alloc (.cells #[.int .i64 0, .int .i64 0, .int .i64 0, .int .i64 0, .int .i64 0, .int .i64 0] 57) := ⟨_, rfl⟩
  obtain ⟨pr, hpr⟩ : ∃ pr, pr = w.heap.size := ⟨_, rfl⟩
  have HO : Hid (Out w W) := hidOf (by rw [hW]; exact (Out.refl w).alloc _)
  have HZ : Hid (Zb W pr) := hidOf (by rw [hW, hpr]; exact heap_alloc_new w _)
  have CN := hidOf (fun wx (o : Out w wx) c' => num_cut (Nat.lt_of_lt_of_le hg o.size) (h.out hg o) 4 1 c' (by omega) (by omega))
  have CS : Hid (∀ wx, Calls Try.prog 44 #[.int .i64 (nuB l 4 1)] wx fun e w' => e = .returned (.tuple #[kv (fifP (nuB l 4 1)), .bool true]) ∧ w' = wx) := fun wx => (sortOf_any _ wx).mono fun e w' ⟨he, ho⟩ => ⟨by rw [he, decide_eq_true h0], ho⟩
  obtain ⟨x, hx⟩ : ∃ x, l[5]? = some x := ⟨l[5], List.getElem?_eq_getElem (by omega)⟩
  have d5 := h.out hg HO.out 5 x hx
  have hk4 := fif_lt (nuB l 4 1)
  have hxn : ((x.toNat : Int) != 0) = false := by
    rw [hx] at h5
    rw [Option.some.inj h5]; rfl
  have CY : Hid (∀ wx, Out w wx → Calls Try.prog 49 #[.slice (some ⟨g, off, none⟩) 24 c] wx fun e w' => e = .returned (.agg (syB l).ar) ∧ Out wx w') := fun wx o => symbolOf_any wx g off c l (Nat.lt_of_lt_of_le hg o.size) (h.out hg o) hl hc
  have CF := hidOf (fun wx => fault_any (fifP (nuB l 4 1)) ⟨h0, hk4⟩ (syB l).na (syB l).bi (syB l).ki (syB l).se (syB l).va (syB l).si wx)
  have Hf := hidOf hf
  obtain ⟨qr, qc, qv⟩ := q
  have CT := hidOf (fun wx (hr : RB wx p ⟨qr, qc, qv⟩) => take_any (fifP (nuB l 4 1)) ⟨h0, hk4⟩ wx p qr qc qv (syB l).va hr hqc)
  rw [ht2] at CT
  unfold Sy.ar at CY
  generalize (syB l) = s at *
  obtain ⟨na, bi, ki, se, va, si⟩ := s
  simp only at CY CF Hf
  rw [Hf.out] at CF
  simp only [Option.getD_none, Option.isSome_none] at CF
  simp only at CT
  generalize nuB l 4 1 = n4 at *
  generalize fifP n4 = k at *
  have hcI : (24 : Int) ≤ c := by omega
  have hc4 : (4 : Int) ≤ c := by omega
  have hne4 : ¬ c = 4 := by omega
  have HQ := hidOf hq
  have Hp := hidOf hq.lt
  have Hpr := hidOf (Nat.le_of_eq hpr.symm)
  have hk : k = 1 ∨ k = 2 ∨ k = 3 ∨ k = 4 := by omega
  clear hq hg h hl h0 hx hk4 h5 Hf hf ht2 hqc
  rcases hk with rfl | rfl | rfl | rfl
  all_goals
    go_enter Try.func35, Try.ntmps35
    go_upto_region 1 with fail
    rw [← hW, ← hpr]
    clear hW hpr
    go_upto_region 7 with (first | (go_at_call 48; refine (CN.out _ HO.out _).mono ?_; rintro e w1 ⟨rfl, hw⟩; have hw := hw.symm; subst hw) | (go_at_call 44; refine (CS.out _).mono ?_; rintro e w1 ⟨rfl, hw⟩; have hw := hw.symm; subst hw) | (go_at_call 49; refine (CY.out _ HO.out).mono ?_; rintro e w2 ⟨rfl, hO⟩; have HO2 := hidOf hO; clear hO))
    obtain ⟨qb, hqb⟩ : ∃ qb, qb = w2.heap.size := ⟨_, rfl⟩
    have HX : Hid ((w2.alloc (.cells #[.int .i64 na, .int .i64 bi, .int .i64 ki, .int .i64 se, .int .i64 va, .int .i64 si] 57)).heap[qb]? = some (.cells #[.int .i64 na, .int .i64 bi, .int .i64 ki, .int .i64 se, .int .i64 va, .int .i64 si] 57 (0, 0))) := hidOf (by rw [hqb]; exact heap_alloc_new w2 _)
    have HOb := hidOf ((HO.out.trans HO2.out).alloc (.cells #[.int .i64 na, .int .i64 bi, .int .i64 ki, .int .i64 se, .int .i64 va, .int .i64 si] 57))
    have HZb := hidOf (HZ.out.later (HO2.out.alloc (.cells #[.int .i64 na, .int .i64 bi, .int .i64 ki, .int .i64 se, .int .i64 va, .int .i64 si] 57)))
    rw [← hqb]
    clear hqb HO2 d5 hxn
    generalize w2.alloc (.cells #[.int .i64 na, .int .i64 bi, .int .i64 ki, .int .i64 se, .int .i64 va, .int .i64 si] 57) = wb at *
    have k0 := box_cell HX.out 0
    have k1 := box_cell HX.out 1
    have k2 := box_cell HX.out 2
    have k3 := box_cell HX.out 3
    have k4 := box_cell HX.out 4
    have k5 := box_cell HX.out 5
    simp only [List.getElem?_toArray, List.getElem?_cons_zero, List.getElem?_cons_succ] at k0 k1 k2 k3 k4 k5
    have HX3 : Hid (∀ wx, Out wb wx → wx.heap[qb]? = some (.cells #[.int .i64 na, .int .i64 bi, .int .i64 ki, .int .i64 se, .int .i64 va, .int .i64 si] 57 (0, 0))) := fun wx o => (o.block qb (Array.getElem?_eq_some_iff.1 HX.out).1).trans HX.out
    have hne : ¬ qb = p := fun e => by
      have h1 := HX.out
      rw [e, show wb.heap[p]? = _ from HQ.out.out HOb.out] at h1
      simp at h1
    go_upto_region 10 with (first | (go_at_call 46; refine (CF.out _).mono ?_; rintro e w3 ⟨rfl, hO⟩; have HO3 := hidOf (HOb.out.trans hO); have HZ3 := hidOf (HZb.out.later hO); have HX4 := hidOf (HX3.out _ hO); have k4' := cell_later hO k4; clear hO))
    clear k0 k1 k2 k3 k4 k5
    have hnz : pr ≠ p := by have := Hp.out; have := Hpr.out; omega
    have ARM4 : Hid (∀ w4, Chg (fun k => k = p) w3 w4 → Chg (fun k => k = p) w w4 ∧ Zb w4 pr ∧ w4.heap[qb]? = some (.cells #[.int .i64 na, .int .i64 bi, .int .i64 ki, .int .i64 se, .int .i64 va, .int .i64 si] 57 (0, 0))) := fun w4 c => ⟨(Chg.of_out HO3.out).trans c (fun x h _ => h), HZ3.out.chg c hnz, (c.block qb (Array.getElem?_eq_some_iff.1 HX4.out).1 hne).trans HX4.out⟩
    have HR3 := hidOf (HQ.out.out HO3.out)
    clear HX HX3 hne hnz
    go_wp2_with (first | (go_at_call 32; refine (CT.out _ HR3.out).mono ?_; rintro e w4 ⟨rfl, hC, q', hR, hq'⟩; have HR4 := hidOf hR; have Hq' := hidOf hq'; obtain ⟨hC4, hZ4, hX4⟩ := ARM4.out w4 hC; have HC4 := hidOf hC4; have HZ4 := hidOf hZ4; clear hR hq' hC4 hZ4 hX4 hC; obtain ⟨r0, r1, r2, r3, r4, r5⟩ := HZ4.out.frozen; obtain ⟨z0, z1, z2, z3, z4, z5⟩ := HZ4.out.cells))
    refine bodyPost_ret (results_row_tmp2 rfl _ _ pr 57 _ (0, 0) _ rfl (set6_heap ⟨0, 0, 0, 0, 0, 0⟩ HZ4.out) Try.underlying57 rfl sizeSm) rfl ?_
    exact te_end (o := (none, 0, 101)) ⟨0, 0, 0, 0, 0, 0⟩ HC4.out Hp.out Hpr.out HR4.out (fun _ _ h => by cases h)
set_option maxRecDepth 8000 in
set_option maxHeartbeats 4000000 in
theorem takeEntry_take (w : World) (p : Nat) (q : Rn) (g off c : Nat) (l : List UInt8) (hq : RB w p q) (hg : g < w.heap.size) (h : BAt w g off l) (hl : l.length = 24) (hc : 24 ≤ c) (h0 : 0 < fifP (nuB l 4 1)) (h5 : l[5]? = some 0) (hf : ffP (fifP (nuB l 4 1)) (syB l) = none) (hqc : 0 ≤ q.c ∧ q.c ≤ 10000000000000) (q2 : Rn) (ht2 : tkS q (fifP (nuB l 4 1)) (syB l).va = some q2) : Calls Try.prog 35 #[.pointer (some ⟨p, 0, none⟩), .slice (some ⟨g, off, none⟩) 24 c] w fun e w' => TeEnd w p (teP q l) e w' := by
  have ht : teP q l = (some (syB l, q2), 0, 0) := by unfold teP; rw [if_neg (by omega), if_neg (by simp [h5])]; simp only [hf, ht2]
  rw [ht]
  clear ht
  obtain ⟨W, hW⟩ : ∃ W, W = w.alloc (.cells #[.int .i64 0, .int .i64 0, .int .i64 0, .int .i64 0, .int .i64 0, .int .i64 0] 57) := ⟨_, rfl⟩
  obtain ⟨pr, hpr⟩ : ∃ pr, pr = w.heap.size := ⟨_, rfl⟩
  have HO : Hid (Out w W) := hidOf (by rw [hW]; exact (Out.refl w).alloc _)
  have HZ : Hid (Zb W pr) := hidOf (by rw [hW, hpr]; exact heap_alloc_new w _)
  have CN := hidOf (fun wx (o : Out w wx) c' => num_cut (Nat.lt_of_lt_of_le hg o.size) (h.out hg o) 4 1 c' (by omega) (by omega))
  have CS : Hid (∀ wx, Calls Try.prog 44 #[.int .i64 (nuB l 4 1)] wx fun e w' => e = .returned (.tuple #[kv (fifP (nuB l 4 1)), .bool true]) ∧ w' = wx) := fun wx => (sortOf_any _ wx).mono fun e w' ⟨he, ho⟩ => ⟨by rw [he, decide_eq_true h0], ho⟩
  obtain ⟨x, hx⟩ : ∃ x, l[5]? = some x := ⟨l[5], List.getElem?_eq_getElem (by omega)⟩
  have d5 := h.out hg HO.out 5 x hx
  have hk4 := fif_lt (nuB l 4 1)
  have hxn : ((x.toNat : Int) != 0) = false := by
    rw [hx] at h5
    rw [Option.some.inj h5]; rfl
  have CY : Hid (∀ wx, Out w wx → Calls Try.prog 49 #[.slice (some ⟨g, off, none⟩) 24 c] wx fun e w' => e = .returned (.agg (syB l).ar) ∧ Out wx w') := fun wx o => symbolOf_any wx g off c l (Nat.lt_of_lt_of_le hg o.size) (h.out hg o) hl hc
  have CF := hidOf (fun wx => fault_any (fifP (nuB l 4 1)) ⟨h0, hk4⟩ (syB l).na (syB l).bi (syB l).ki (syB l).se (syB l).va (syB l).si wx)
  have Hf := hidOf hf
  obtain ⟨qr, qc, qv⟩ := q
  have CT := hidOf (fun wx (hr : RB wx p ⟨qr, qc, qv⟩) => take_any (fifP (nuB l 4 1)) ⟨h0, hk4⟩ wx p qr qc qv (syB l).va hr hqc)
  rw [ht2] at CT
  unfold Sy.ar at CY
  generalize (syB l) = s at *
  obtain ⟨na, bi, ki, se, va, si⟩ := s
  simp only at CY CF Hf
  rw [Hf.out] at CF
  simp only [Option.getD_none, Option.isSome_none] at CF
  simp only at CT
  generalize nuB l 4 1 = n4 at *
  generalize fifP n4 = k at *
  have hcI : (24 : Int) ≤ c := by omega
  have hc4 : (4 : Int) ≤ c := by omega
  have hne4 : ¬ c = 4 := by omega
  have HQ := hidOf hq
  have Hp := hidOf hq.lt
  have Hpr := hidOf (Nat.le_of_eq hpr.symm)
  have hk : k = 1 ∨ k = 2 ∨ k = 3 ∨ k = 4 := by omega
  clear hq hg h hl h0 hx hk4 h5 Hf hf ht2 hqc
  rcases hk with rfl | rfl | rfl | rfl
  all_goals
    go_enter Try.func35, Try.ntmps35
    go_upto_region 1 with fail
    rw [← hW, ← hpr]
    clear hW hpr
    go_upto_region 7 with (first | (go_at_call 48; refine (CN.out _ HO.out _).mono ?_; rintro e w1 ⟨rfl, hw⟩; have hw := hw.symm; subst hw) | (go_at_call 44; refine (CS.out _).mono ?_; rintro e w1 ⟨rfl, hw⟩; have hw := hw.symm; subst hw) | (go_at_call 49; refine (CY.out _ HO.out).mono ?_; rintro e w2 ⟨rfl, hO⟩; have HO2 := hidOf hO; clear hO))
    obtain ⟨qb, hqb⟩ : ∃ qb, qb = w2.heap.size := ⟨_, rfl⟩
    have HX : Hid ((w2.alloc (.cells #[.int .i64 na, .int .i64 bi, .int .i64 ki, .int .i64 se, .int .i64 va, .int .i64 si] 57)).heap[qb]? = some (.cells #[.int .i64 na, .int .i64 bi, .int .i64 ki, .int .i64 se, .int .i64 va, .int .i64 si] 57 (0, 0))) := hidOf (by rw [hqb]; exact heap_alloc_new w2 _)
    have HOb := hidOf ((HO.out.trans HO2.out).alloc (.cells #[.int .i64 na, .int .i64 bi, .int .i64 ki, .int .i64 se, .int .i64 va, .int .i64 si] 57))
    have HZb := hidOf (HZ.out.later (HO2.out.alloc (.cells #[.int .i64 na, .int .i64 bi, .int .i64 ki, .int .i64 se, .int .i64 va, .int .i64 si] 57)))
    rw [← hqb]
    clear hqb HO2 d5 hxn
    generalize w2.alloc (.cells #[.int .i64 na, .int .i64 bi, .int .i64 ki, .int .i64 se, .int .i64 va, .int .i64 si] 57) = wb at *
    have k0 := box_cell HX.out 0
    have k1 := box_cell HX.out 1
    have k2 := box_cell HX.out 2
    have k3 := box_cell HX.out 3
    have k4 := box_cell HX.out 4
    have k5 := box_cell HX.out 5
    simp only [List.getElem?_toArray, List.getElem?_cons_zero, List.getElem?_cons_succ] at k0 k1 k2 k3 k4 k5
    have HX3 : Hid (∀ wx, Out wb wx → wx.heap[qb]? = some (.cells #[.int .i64 na, .int .i64 bi, .int .i64 ki, .int .i64 se, .int .i64 va, .int .i64 si] 57 (0, 0))) := fun wx o => (o.block qb (Array.getElem?_eq_some_iff.1 HX.out).1).trans HX.out
    have hne : ¬ qb = p := fun e => by
      have h1 := HX.out
      rw [e, show wb.heap[p]? = _ from HQ.out.out HOb.out] at h1
      simp at h1
    go_upto_region 10 with (first | (go_at_call 46; refine (CF.out _).mono ?_; rintro e w3 ⟨rfl, hO⟩; have HO3 := hidOf (HOb.out.trans hO); have HZ3 := hidOf (HZb.out.later hO); have HX4 := hidOf (HX3.out _ hO); have k4' := cell_later hO k4; clear hO))
    clear k0 k1 k2 k3 k4 k5
    have hnz : pr ≠ p := by have := Hp.out; have := Hpr.out; omega
    have ARM4 : Hid (∀ w4, Chg (fun k => k = p) w3 w4 → Chg (fun k => k = p) w w4 ∧ Zb w4 pr ∧ w4.heap[qb]? = some (.cells #[.int .i64 na, .int .i64 bi, .int .i64 ki, .int .i64 se, .int .i64 va, .int .i64 si] 57 (0, 0))) := fun w4 c => ⟨(Chg.of_out HO3.out).trans c (fun x h _ => h), HZ3.out.chg c hnz, (c.block qb (Array.getElem?_eq_some_iff.1 HX4.out).1 hne).trans HX4.out⟩
    have HR3 := hidOf (HQ.out.out HO3.out)
    clear HX HX3 hne hnz
    go_wp2_with (first | (go_at_call 32; refine (CT.out _ HR3.out).mono ?_; rintro e w4 ⟨rfl, hC, q', hR, hq'⟩; have HR4 := hidOf hR; have Hq' := hidOf hq'; obtain ⟨hC4, hZ4, hX4⟩ := ARM4.out w4 hC; have HC4 := hidOf hC4; have HZ4 := hidOf hZ4; have k0 := box_cell hX4 0; have k1 := box_cell hX4 1; have k2 := box_cell hX4 2; have k3 := box_cell hX4 3; have k4 := box_cell hX4 4; have k5 := box_cell hX4 5; simp only [List.getElem?_toArray, List.getElem?_cons_zero, List.getElem?_cons_succ] at k0 k1 k2 k3 k4 k5; clear hR hq' hC4 hZ4 hX4 hC; obtain ⟨r0, r1, r2, r3, r4, r5⟩ := HZ4.out.frozen; obtain ⟨z0, z1, z2, z3, z4, z5⟩ := HZ4.out.cells))
    refine bodyPost_ret (results_row_tmp2 rfl _ _ pr 57 _ (0, 0) _ rfl (set6_heap ⟨na, bi, ki, se, va, si⟩ HZ4.out) Try.underlying57 rfl sizeSm) rfl ?_
    exact te_end (o := (some (⟨na, bi, ki, se, va, si⟩, q2), 0, 0)) ⟨na, bi, ki, se, va, si⟩ HC4.out Hp.out Hpr.out HR4.out (fun s2 q3 h => by cases h; exact ⟨rfl, Hq'.out _ rfl⟩)
theorem takeEntry_any (w : World) (p : Nat) (q : Rn) (g off c : Nat) (l : List UInt8) (hq : RB w p q) (hg : g < w.heap.size) (h : BAt w g off l) (hl : l.length = 24) (hc : 24 ≤ c) (hqc : 0 ≤ q.c ∧ q.c ≤ 10000000000000) : Calls Try.prog 35 #[.pointer (some ⟨p, 0, none⟩), .slice (some ⟨g, off, none⟩) 24 c] w fun e w' => TeEnd w p (teP q l) e w' := by
  by_cases h0 : fifP (nuB l 4 1) = 0
  · exact takeEntry_sort w p q g off c l hq hg h hl hc h0
  · by_cases h5 : l[5]? = some 0
    · cases hf : ffP (fifP (nuB l 4 1)) (syB l) with
      | some a => exact takeEntry_fault w p q g off c l hq hg h hl hc (by omega) h5 a hf
      | none =>
        cases ht : tkS q (fifP (nuB l 4 1)) (syB l).va with
        | none => exact takeEntry_order w p q g off c l hq hg h hl hc (by omega) h5 hf hqc ht
        | some q2 => exact takeEntry_take w p q g off c l hq hg h hl hc (by omega) h5 hf hqc q2 ht
    · exact takeEntry_zero w p q g off c l hq hg h hl hc (by omega) h5
end Go.Proofs.Ytbdmbicnlfcclaa
