import Derived.Test.YtoobdcjkhphlcaaRee
namespace Go.Proofs.Ytoobdcjkhphlcaa
open Go.RowKit
set_option linter.unusedVariables false
set_option linter.unusedSimpArgs false
/-- an entry taken up -/
def teP (ah : Int) (l : List UInt8) : Option Rl × Nat × Int :=
  if nuB l 0 8 % 8 ≠ 0 then (none, 0, 110) else if 524288 ≤ nuB l 0 8 then (none, 0, 110) else
    if ((nuB l 0 8 / 8 : Nat) : Int) ≤ ah then (none, 0, 111) else if kdP (nuB l 8 4) = 0 then (none, 8, 110) else if nuB l 12 4 = 0 then (none, 12, 110) else
      (some ⟨(nuB l 0 8 / 8 : Nat), (kdP (nuB l 8 4) : Nat), (nuB l 12 4 : Nat)⟩, 0, 0)
def Rl.ar (s : Rl) : Array Value := #[.int .i64 s.sl, .int .i64 s.ki, .int .i64 s.sy]
/-- behind takeEntry -/
def TeEnd (w : World) (o : Option Rl × Nat × Int) (e : Ending) (w' : World) : Prop := Out w w' ∧ ∃ s, e = .returned (.tuple #[.agg (Rl.ar s), .int .i64 (o.2.1 : Nat), .int .i64 o.2.2]) ∧ ∀ s2, o.1 = some s2 → s = s2
theorem results_row_tmp2 {P : Program} {fn : Func} {p u u' : Tmp} {ty : TypeId} (h : fn.results = #[.cell p ty, .tmp u, .tmp u']) (tmps : Array Value) (w : World) (g : Nat) (t : TypeId) (cs : Array Value) (fr : Nat × Nat) (d : TypeDesc)
    (hp : tmps.getD p undef = .pointer (some ⟨g, 0, none⟩)) (hg : w.heap[g]? = some (.cells cs t fr))
    (hu : P.underlying ty = some d) (hd : (match d with | .struct _ | .array _ _ => true | _ => false) = true) (hi : (P.info? ty).map (·.size) = some cs.size) :
    (results fn tmps).run P w = .ok (.tuple #[.agg cs, tmps.getD u undef, tmps.getD u' undef]) w := by
  have hp' : tmps[p]?.getD undef = .pointer (some ⟨g, 0, none⟩) := by simpa using hp
  simp [results, h, hp', asAddr, run_loadVar_row w g t ty cs fr d hg hu hd hi]
theorem sizeRl : (Try.prog.info? 27).map (·.size) = some 3 := by kernel_rfl
def set3 (w : World) (p : Nat) (s : Rl) : World := ((w.setCell ⟨p, 0, none⟩ (.int .i64 s.sl)).setCell ⟨p, 1, none⟩ (.int .i64 s.ki)).setCell ⟨p, 2, none⟩ (.int .i64 s.sy)
def Zb (w : World) (p : Nat) : Prop := w.heap[p]? = some (.cells #[.int .i64 0, .int .i64 0, .int .i64 0] 27 (0, 0))
theorem Zb.frozen {w : World} {p : Nat} (h : Zb w p) : w.frozen? ⟨p, 0, none⟩ = false ∧ w.frozen? ⟨p, 1, none⟩ = false ∧ w.frozen? ⟨p, 2, none⟩ = false := by
  unfold Zb at h
  simp [World.frozen?, h]
theorem Zb.cells {w : World} {p : Nat} (h : Zb w p) : w.cell? ⟨p, 0, none⟩ = some (.int .i64 0) ∧ w.cell? ⟨p, 1, none⟩ = some (.int .i64 0) ∧ w.cell? ⟨p, 2, none⟩ = some (.int .i64 0) := ⟨box_cell h 0, box_cell h 1, box_cell h 2⟩
theorem set3_heap {w : World} {p : Nat} (s : Rl) (h : Zb w p) : (set3 w p s).heap[p]? = some (.cells (Rl.ar s) 27 (0, 0)) := by
  unfold Zb at h
  simp [set3, Rl.ar, World.setCell, Array.getElem?_modify, h]
theorem set3_out {w wx : World} {pr : Nat} (s : Rl) (h : Out w wx) (hp : w.heap.size ≤ pr) : Out w (set3 wx pr s) := by
  unfold set3
  repeat (refine Out.setCell ?_ hp _)
  exact h
theorem te_end {w wx : World} {pr : Nat} {o : Option Rl × Nat × Int} (s : Rl) (c : Out w wx) (hpr : w.heap.size ≤ pr) (h : ∀ s2, o.1 = some s2 → s = s2) : TeEnd w o (.returned (.tuple #[.agg (Rl.ar s), .int .i64 (o.2.1 : Nat), .int .i64 o.2.2])) (set3 wx pr s) := ⟨set3_out s c hpr, s, rfl, h⟩
set_option maxRecDepth 8000 in
set_option maxHeartbeats 1000000 in
theorem takeEntry_any (w : World) (ah : Int) (g off c : Nat) (l : List UInt8) (hg : g < w.heap.size) (h : BAt w g off l) (hl : l.length = 16) (hc : 16 ≤ c) : Calls Try.prog 33 #[.slice (some ⟨g, off, none⟩) 16 c, .int .i64 ah] w fun e w' => TeEnd w (teP ah l) e w' := by
  obtain ⟨W, hW⟩ : ∃ W, W = w.alloc (.cells #[.int .i64 0, .int .i64 0, .int .i64 0] 27) := ⟨_, rfl⟩
  obtain ⟨pr, hpr⟩ : ∃ pr, pr = w.heap.size := ⟨_, rfl⟩
  have HO : Hid (Out w W) := hidOf (by rw [hW]; exact (Out.refl w).alloc _)
  have HZ : Hid (Zb W pr) := hidOf (by rw [hW, hpr]; exact heap_alloc_new w _)
  have NN : ∀ (i n m : Nat), m = 16 - i → n ≤ 8 → i + n ≤ 16 → ∀ c', Calls Try.prog 44 #[.slice (some ⟨g, off + i, none⟩) m c', .int .i64 (n : Int)] W fun e w' => e = .returned (.int .u64 (nuB l i n : Nat)) ∧ w' = W := fun i n m hm hn hi c' => take_cut (Nat.lt_of_lt_of_le hg HO.out.size) (h.out hg HO.out) i n m c' (by omega) hn (by omega)
  have N0 : Hid (∀ c', Calls Try.prog 44 #[.slice (some ⟨g, off, none⟩) 16 c', .int .i64 8] W fun e w' => e = .returned (.int .u64 (nuB l 0 8 : Nat)) ∧ w' = W) := fun c' => NN 0 8 16 (by omega) (by omega) (by omega) c'
  have N8 : Hid (∀ c', Calls Try.prog 44 #[.slice (some ⟨g, off + 8, none⟩) 8 c', .int .i64 4] W fun e w' => e = .returned (.int .u64 (nuB l 8 4 : Nat)) ∧ w' = W) := fun c' => NN 8 4 8 (by omega) (by omega) (by omega) c'
  have N12 : Hid (∀ c', Calls Try.prog 44 #[.slice (some ⟨g, off + 12, none⟩) 4 c', .int .i64 4] W fun e w' => e = .returned (.int .u64 (nuB l 12 4 : Nat)) ∧ w' = W) := fun c' => NN 12 4 4 (by omega) (by omega) (by omega) c'
  have CK := hidOf (fun wx => kindOf_any (nuB l 8 4) wx)
  have b0 := nu_lt l 0 8
  have b8 := nu_lt l 8 4
  have b12 := nu_lt l 12 4
  obtain ⟨T, hT⟩ : ∃ T, T = teP ah l := ⟨_, rfl⟩
  rw [← hT]
  unfold teP at hT
  generalize nuB l 0 8 = o at *
  generalize nuB l 8 4 = t at *
  generalize nuB l 12 4 = y at *
  have hcI : (16 : Int) ≤ c := by omega
  have hc8 : (8 : Int) ≤ c := by omega
  have hc12 : (12 : Int) ≤ c := by omega
  have hne0 : ¬ c = 0 := by omega
  have hne8 : ¬ c = 8 := by omega
  have hne12 : ¬ c = 12 := by omega
  have Hpr := hidOf (Nat.le_of_eq hpr.symm)
  clear hg h hl NN
  obtain ⟨z, hz⟩ : ∃ z : Int, z = (o : Int) := ⟨_, rfl⟩
  rw [← hz] at N0
  have zp : 0 ≤ z := by omega
  by_cases c1 : o % 8 = 0
  · rw [if_neg (by omega)] at hT
    have d1 : (z % 8 != 0) = false := by simp; omega
    by_cases c2 : 524288 ≤ o
    · rw [if_pos c2] at hT
      have c2I : (524288 : Int) ≤ z := by omega
      clear hz c1 c2
      subst hT
      go_enter Try.func33, Try.ntmps33
      go_upto_region 1 with fail
      rw [← hW, ← hpr]
      clear hW hpr
      obtain ⟨r0, r1, r2⟩ := HZ.out.frozen
      obtain ⟨z0, z1, z2⟩ := HZ.out.cells
      go_wp2_with (first | (go_at_call 44; (first | with_reducible refine (N0.out _).mono ?_ | with_reducible refine (N8.out _).mono ?_ | with_reducible refine (N12.out _).mono ?_); rintro e w1 ⟨rfl, hw⟩; have hw := hw.symm; subst hw) | (go_at_call 45; refine (CK.out _).mono ?_; rintro e w1 ⟨rfl, hw⟩; have hw := hw.symm; subst hw))
      refine bodyPost_ret (results_row_tmp2 rfl _ _ pr 27 _ (0, 0) _ rfl (set3_heap ⟨0, 0, 0⟩ HZ.out) Try.underlying27 rfl sizeRl) rfl ?_
      exact te_end (o := (none, 0, 110)) ⟨0, 0, 0⟩ HO.out Hpr.out (fun _ h => by cases h)
    · rw [if_neg c2] at hT
      have c2I : decide ((524288 : Int) ≤ z) = false := by simp; omega
      obtain ⟨q, hq⟩ : ∃ q, o / 8 = q := ⟨_, rfl⟩
      rw [hq] at hT
      have Q1 : Hid (z / 8 = (q : Int)) := hidOf (by omega)
      have Q3 : Hid ((y : Int) ≤ 4294967295) := hidOf (by omega)
      have Q4 : Hid ((q : Int) < 65536) := hidOf (by omega)
      clear hq b0 b8 b12 c1 c2 hz
      by_cases c3 : (q : Int) ≤ ah
      · rw [if_pos c3] at hT
        subst hT
        go_enter Try.func33, Try.ntmps33
        go_upto_region 1 with fail
        rw [← hW, ← hpr]
        clear hW hpr
        obtain ⟨r0, r1, r2⟩ := HZ.out.frozen
        obtain ⟨z0, z1, z2⟩ := HZ.out.cells
        go_upto_region 4 with (first | (go_at_call 44; with_reducible refine (N0.out _).mono ?_; rintro e w1 ⟨rfl, hw⟩; have hw := hw.symm; subst hw))
        have q1 := Q1.out; have q3 := Q3.out; have q4 := Q4.out
        clear d1 c2I
        go_wp2_with (first | (go_at_call 44; (first | with_reducible refine (N0.out _).mono ?_ | with_reducible refine (N8.out _).mono ?_ | with_reducible refine (N12.out _).mono ?_); rintro e w1 ⟨rfl, hw⟩; have hw := hw.symm; subst hw) | (go_at_call 45; refine (CK.out _).mono ?_; rintro e w1 ⟨rfl, hw⟩; have hw := hw.symm; subst hw))
        refine bodyPost_ret (results_row_tmp2 rfl _ _ pr 27 _ (0, 0) _ rfl (set3_heap ⟨0, 0, 0⟩ HZ.out) Try.underlying27 rfl sizeRl) rfl ?_
        exact te_end (o := (none, 0, 111)) ⟨0, 0, 0⟩ HO.out Hpr.out (fun _ h => by cases h)
      · rw [if_neg c3] at hT
        have c3B : decide ((q : Int) ≤ ah) = false := decide_eq_false c3
        clear c3
        generalize kdP t = kd at *
        by_cases c4 : kd = 0
        · rw [if_pos c4] at hT
          subst hT
          have hdec : decide (0 < kd) = false := by simp [c4]
          rw [hdec] at CK
          go_enter Try.func33, Try.ntmps33
          go_upto_region 1 with fail
          rw [← hW, ← hpr]
          clear hW hpr
          obtain ⟨r0, r1, r2⟩ := HZ.out.frozen
          obtain ⟨z0, z1, z2⟩ := HZ.out.cells
          go_upto_region 4 with (first | (go_at_call 44; with_reducible refine (N0.out _).mono ?_; rintro e w1 ⟨rfl, hw⟩; have hw := hw.symm; subst hw))
          have q1 := Q1.out; have q3 := Q3.out; have q4 := Q4.out
          clear d1 c2I
          go_wp2_with (first | (go_at_call 44; (first | with_reducible refine (N0.out _).mono ?_ | with_reducible refine (N8.out _).mono ?_ | with_reducible refine (N12.out _).mono ?_); rintro e w1 ⟨rfl, hw⟩; have hw := hw.symm; subst hw) | (go_at_call 45; refine (CK.out _).mono ?_; rintro e w1 ⟨rfl, hw⟩; have hw := hw.symm; subst hw))
          refine bodyPost_ret (results_row_tmp2 rfl _ _ pr 27 _ (0, 0) _ rfl (set3_heap ⟨0, 0, 0⟩ HZ.out) Try.underlying27 rfl sizeRl) rfl ?_
          exact te_end (o := (none, 8, 110)) ⟨0, 0, 0⟩ HO.out Hpr.out (fun _ h => by cases h)
        · rw [if_neg c4] at hT
          have hdec : decide (0 < kd) = true := by simp; omega
          rw [hdec] at CK
          by_cases c5 : y = 0
          · rw [if_pos c5] at hT
            subst hT
            have c5I : ((y : Int) == 0) = true := by simp [c5]
            subst c5
            go_enter Try.func33, Try.ntmps33
            go_upto_region 1 with fail
            rw [← hW, ← hpr]
            clear hW hpr
            obtain ⟨r0, r1, r2⟩ := HZ.out.frozen
            obtain ⟨z0, z1, z2⟩ := HZ.out.cells
            go_upto_region 4 with (first | (go_at_call 44; with_reducible refine (N0.out _).mono ?_; rintro e w1 ⟨rfl, hw⟩; have hw := hw.symm; subst hw))
            have q1 := Q1.out; have q3 := Q3.out; have q4 := Q4.out
            clear d1 c2I
            go_wp2_with (first | (go_at_call 44; (first | with_reducible refine (N0.out _).mono ?_ | with_reducible refine (N8.out _).mono ?_ | with_reducible refine (N12.out _).mono ?_); rintro e w1 ⟨rfl, hw⟩; have hw := hw.symm; subst hw) | (go_at_call 45; refine (CK.out _).mono ?_; rintro e w1 ⟨rfl, hw⟩; have hw := hw.symm; subst hw))
            refine bodyPost_ret (results_row_tmp2 rfl _ _ pr 27 _ (0, 0) _ rfl (set3_heap ⟨0, 0, 0⟩ HZ.out) Try.underlying27 rfl sizeRl) rfl ?_
            exact te_end (o := (none, 12, 110)) ⟨0, 0, 0⟩ HO.out Hpr.out (fun _ h => by cases h)
          · rw [if_neg c5] at hT
            subst hT
            have c5I : ((y : Int) == 0) = false := by simp; omega
            go_enter Try.func33, Try.ntmps33
            go_upto_region 1 with fail
            rw [← hW, ← hpr]
            clear hW hpr
            obtain ⟨r0, r1, r2⟩ := HZ.out.frozen
            obtain ⟨z0, z1, z2⟩ := HZ.out.cells
            go_upto_region 4 with (first | (go_at_call 44; with_reducible refine (N0.out _).mono ?_; rintro e w1 ⟨rfl, hw⟩; have hw := hw.symm; subst hw))
            have q1 := Q1.out; have q3 := Q3.out; have q4 := Q4.out
            clear d1 c2I
            go_wp2_with (first | (go_at_call 44; (first | with_reducible refine (N0.out _).mono ?_ | with_reducible refine (N8.out _).mono ?_ | with_reducible refine (N12.out _).mono ?_); rintro e w1 ⟨rfl, hw⟩; have hw := hw.symm; subst hw) | (go_at_call 45; refine (CK.out _).mono ?_; rintro e w1 ⟨rfl, hw⟩; have hw := hw.symm; subst hw))
            refine bodyPost_ret (results_row_tmp2 rfl _ _ pr 27 _ (0, 0) _ rfl (set3_heap ⟨q, kd, y⟩ HZ.out) Try.underlying27 rfl sizeRl) rfl ?_
            exact te_end (o := (some ⟨q, kd, y⟩, 0, 0)) ⟨q, kd, y⟩ HO.out Hpr.out (fun s2 h => by cases h; rfl)
  · rw [if_pos (by omega)] at hT
    have d1 : (z % 8 != 0) = true := by simp; omega
    subst hT
    clear hz c1
    go_enter Try.func33, Try.ntmps33
    go_upto_region 1 with fail
    rw [← hW, ← hpr]
    clear hW hpr
    obtain ⟨r0, r1, r2⟩ := HZ.out.frozen
    obtain ⟨z0, z1, z2⟩ := HZ.out.cells
    go_wp2_with (first | (go_at_call 44; (first | with_reducible refine (N0.out _).mono ?_ | with_reducible refine (N8.out _).mono ?_ | with_reducible refine (N12.out _).mono ?_); rintro e w1 ⟨rfl, hw⟩; have hw := hw.symm; subst hw) | (go_at_call 45; refine (CK.out _).mono ?_; rintro e w1 ⟨rfl, hw⟩; have hw := hw.symm; subst hw))
    refine bodyPost_ret (results_row_tmp2 rfl _ _ pr 27 _ (0, 0) _ rfl (set3_heap ⟨0, 0, 0⟩ HZ.out) Try.underlying27 rfl sizeRl) rfl ?_
    exact te_end (o := (none, 0, 110)) ⟨0, 0, 0⟩ HO.out Hpr.out (fun _ h => by cases h)
end Go.Proofs.Ytoobdcjkhphlcaa
