import Derived.Test.YtkihaohdcgjioaaGreatDoorGr17
namespace Go.Proofs.YtkihaohdcgjioaaGreatDoor
open Go.RowKit
set_option linter.unusedVariables false
set_option linter.unusedSimpArgs false
theorem fldT1 (a b c d : Value) (w : World) : (Instr.field 117 (.agg #[a, b, c, d]) 1).run Tryz.prog w = .ok b w := by kernel_rfl
theorem fldT2 (a b c d : Value) (w : World) : (Instr.field 117 (.agg #[a, b, c, d]) 2).run Tryz.prog w = .ok c w := by kernel_rfl
theorem isTableKind_any (x : List UInt8) (w : World) : Calls Tryz.prog 88 #[.string ⟨x.toArray⟩] w fun e w' => e = .returned (.bool (tknQ x)) ∧ w' = w := by
  have e1 : (arrB : List UInt8) = [97, 114, 114, 97, 121] := rfl
  have e2 : (hashB : List UInt8) = [104, 97, 115, 104] := rfl
  unfold tknQ
  rw [e1, e2]
  clear e1 e2
  cases h1 : (x == [97, 114, 114, 97, 121])
  all_goals cases h2 : (x == [104, 97, 115, 104])
  all_goals go_enter Tryz.func88, Tryz.ntmps88
  all_goals go_wp2
  all_goals go_ret
  all_goals exact ⟨rfl, rfl⟩
theorem isColon_any (t : Lx.Tk) (w : World) : Calls Tryz.prog 93 #[tkE t] w fun e w' => e = .returned (.bool (colQ t)) ∧ Out w w' := by
  unfold tkE colQ
  cases h1 : (t.k == 4)
  all_goals cases h2 : (t.t == [58])
  all_goals go_enter Tryz.func93, Tryz.ntmps93
  all_goals go_wp2
  all_goals go_ret
  all_goals exact ⟨rfl, (Out.refl w).alloc _⟩
set_option maxRecDepth 20000 in
theorem word_any (B : Nat) (w : World) (p g mb : Nat) (sv : Value) (ts : List Lx.Tk) (h : PS B w p g mb sv ts) (hl : Lw ts) : Calls Tryz.prog 96 #[.pointer (some ⟨p, 0, none⟩)] w (REnd txE (wdQ ts) B w p g mb sv) := by
  have C := hidOf (take_any B w p g mb sv ts 1 h hl)
  unfold wdQ
  cases hq : tkQ 1 ts with
  | ok t r =>
    rw [hq] at C
    unfold REnd at C
    simp only at C
    unfold REnd RE.bind
    simp only
    clear h hl hq
    unfold tkE at C
    have hfl := fldT1
    go_enter Tryz.func96, Tryz.ntmps96
    go_wp2_with (go_at_call 97; refine C.out.mono ?_; rintro e w1 ⟨rfl, hp, hc⟩; have P1 := hidOf hp; have C1 := hidOf hc; clear hp hc)
    go_ret
    exact ⟨rfl, P1.out, C1.out⟩
  | no c r =>
    rw [hq] at C
    unfold REnd at C
    simp only at C
    unfold REnd RE.bind
    simp only
    clear h hl hq
    unfold pnc at C
    go_enter Tryz.func96, Tryz.ntmps96
    go_wp2_with (go_at_call 97; refine C.out.mono ?_; rintro e w1 ⟨rfl, hp, hc⟩; have P1 := hidOf hp; have C1 := hidOf hc; clear hp hc)
    exact ⟨rfl, rfl, P1.out, C1.out⟩
theorem bind_ok {α β : Type} (a : α) (ts : List Lx.Tk) (f : α → List Lx.Tk → RE β) : (RE.ok a ts).bind f = f a ts := rfl
theorem bind_no {α β : Type} (c : Int) (ts : List Lx.Tk) (f : α → List Lx.Tk → RE β) : (RE.no c ts : RE α).bind f = .no c ts := rfl
set_option maxRecDepth 20000 in
theorem tableKind_any (B : Nat) (w : World) (p g mb : Nat) (sv : Value) (ts : List Lx.Tk) (h : PS B w p g mb sv ts) (hl : Lw ts) : Calls Tryz.prog 135 #[.pointer (some ⟨p, 0, none⟩)] w (REnd txE (tdQ ts) B w p g mb sv) := by
  have C := hidOf (word_any B w p g mb sv ts h hl)
  unfold tdQ
  cases hq : wdQ ts with
  | ok x r =>
    have C : Hid (Calls Tryz.prog 96 #[.pointer (some ⟨p, 0, none⟩)] w fun e w' => e = .returned (.string ⟨x.toArray⟩) ∧ PS B w' p g mb sv r ∧ Chg (fun b => b = p) w w') := hidOf (by have := C.out; rw [hq] at this; exact this)
    have CK := hidOf (isTableKind_any x)
    rw [bind_ok]
    clear h hl hq
    cases hx : tknQ x
    · rw [hx] at CK
      rw [if_neg (by simp)]
      clear hx
      go_enter Tryz.func135, Tryz.ntmps135
      go_wp2_with (first | (go_at_call 96; refine C.out.mono ?_; rintro e w1 ⟨rfl, hp, hc⟩; have P1 := hidOf hp; have C1 := hidOf hc; clear hp hc) | (go_at_call 88; refine (CK.out _).mono ?_; rintro e wk ⟨rfl, hw⟩; subst hw))
      exact ⟨rfl, rfl, P1.out, C1.out⟩
    · rw [hx] at CK
      rw [if_pos rfl]
      clear hx
      go_enter Tryz.func135, Tryz.ntmps135
      go_wp2_with (first | (go_at_call 96; refine C.out.mono ?_; rintro e w1 ⟨rfl, hp, hc⟩; have P1 := hidOf hp; have C1 := hidOf hc; clear hp hc) | (go_at_call 88; refine (CK.out _).mono ?_; rintro e wk ⟨rfl, hw⟩; subst hw))
      go_ret
      exact ⟨rfl, P1.out, C1.out⟩
  | no c r =>
    have C : Hid (Calls Tryz.prog 96 #[.pointer (some ⟨p, 0, none⟩)] w fun e w' => e = .panicked [{ v := .iface 49 (.int .i64 c), recovered := false }] ∧ PS B w' p g mb sv r ∧ Chg (fun b => b = p) w w') := hidOf (by have := C.out; rw [hq] at this; exact this)
    rw [bind_no]
    clear h hl hq
    go_enter Tryz.func135, Tryz.ntmps135
    go_wp2_with (go_at_call 96; refine C.out.mono ?_; rintro e w1 ⟨rfl, hp, hc⟩; have P1 := hidOf hp; have C1 := hidOf hc; clear hp hc)
    exact ⟨rfl, rfl, P1.out, C1.out⟩
def inE (n : Int) : Value := .int .i64 n
set_option maxRecDepth 20000 in
theorem number6_any (B : Nat) (w : World) (p g mb : Nat) (sv : Value) (ts : List Lx.Tk) (h : PS B w p g mb sv ts) (hl : Lw ts) (hN : TkOk ts) : Calls Tryz.prog 136 #[.pointer (some ⟨p, 0, none⟩)] w (REnd inE (nuQ ts) B w p g mb sv) := by
  have C := hidOf (take_any B w p g mb sv ts 3 h hl)
  unfold nuQ
  cases hq : tkQ 3 ts with
  | ok t r =>
    have ht : t ∈ ts := by
      obtain ⟨t', r', rfl⟩ := hl.ne
      have hq' : (if t'.k = 3 then RE.ok t' r' else RE.no 60 (t' :: r')) = RE.ok t r := hq
      by_cases e : t'.k = 3
      · rw [if_pos e] at hq'; cases hq'; simp
      · rw [if_neg e] at hq'; cases hq'
    obtain ⟨n0, n1, -⟩ := hN t ht
    have C : Hid (Calls Tryz.prog 97 #[.pointer (some ⟨p, 0, none⟩), .int .i64 3] w fun e w' => e = .returned (.agg #[.int .i64 t.k, .string ⟨t.t.toArray⟩, .int .u64 t.n, .int .i64 t.l]) ∧ PS B w' p g mb sv r ∧ Chg (fun b => b = p) w w') := hidOf (by have := C.out; rw [hq] at this; exact this)
    rw [bind_ok]
    clear h hl hq hN ht
    have hfl := fldT2
    by_cases hx : t.n ≤ 2147483647
    · rw [if_pos hx]
      have hb : ¬ (2147483647 : Int) < t.n := by omega
      go_enter Tryz.func136, Tryz.ntmps136
      go_wp2_with (go_at_call 97; refine C.out.mono ?_; rintro e w1 ⟨rfl, hp, hc⟩; have P1 := hidOf hp; have C1 := hidOf hc; clear hp hc)
      go_ret
      exact ⟨rfl, P1.out, C1.out⟩
    · rw [if_neg hx]
      have hb : (2147483647 : Int) < t.n := by omega
      go_enter Tryz.func136, Tryz.ntmps136
      go_wp2_with (go_at_call 97; refine C.out.mono ?_; rintro e w1 ⟨rfl, hp, hc⟩; have P1 := hidOf hp; have C1 := hidOf hc; clear hp hc)
      exact ⟨rfl, rfl, P1.out, C1.out⟩
  | no c r =>
    have C : Hid (Calls Tryz.prog 97 #[.pointer (some ⟨p, 0, none⟩), .int .i64 3] w fun e w' => e = .panicked [{ v := .iface 49 (.int .i64 c), recovered := false }] ∧ PS B w' p g mb sv r ∧ Chg (fun b => b = p) w w') := hidOf (by have := C.out; rw [hq] at this; exact this)
    rw [bind_no]
    clear h hl hq hN
    go_enter Tryz.func136, Tryz.ntmps136
    go_wp2_with (go_at_call 97; refine C.out.mono ?_; rintro e w1 ⟨rfl, hp, hc⟩; have P1 := hidOf hp; have C1 := hidOf hc; clear hp hc)
    exact ⟨rfl, rfl, P1.out, C1.out⟩
def stE (x : Stm) (wv nv : Value) : Value := .agg #[.int .i64 x.k, .string ⟨x.nm.toArray⟩, wv, nv, .int .i64 x.o, .int .i64 x.d, .int .i64 x.s, .int .i64 x.f, .int .i64 x.i, .string ⟨x.tg.toArray⟩, .int .i64 x.l]
def strsC (l : List (List UInt8)) : List Value := l.map (fun x => .string ⟨x.toArray⟩)
def intsC (l : List Int) : List Value := l.map (fun x => .int .i64 x)
def LsOk (B : Nat) (w : World) (x : Stm) (wv nv : Value) : Prop := w.ownsRow B 9 1 wv x.ws.length (strsC x.ws) ∧ w.ownsRow B 3 1 nv x.ns.length (intsC x.ns)
theorem LsOk.out {B : Nat} {w w' : World} {x : Stm} {wv nv : Value} (h : LsOk B w x wv nv) (o : Out w w') : LsOk B w' x wv nv := ⟨owns_chg (S := fun _ => False) h.1 (fun _ _ h => h) (Chg.of_out o), owns_chg (S := fun _ => False) h.2 (fun _ _ h => h) (Chg.of_out o)⟩
theorem LsOk.atp {B p : Nat} {w w' : World} {x : Stm} {wv nv tv mv sv : Value} (h : LsOk B w x wv nv) (hR : RB w p tv mv sv) (c : Chg (fun b => b = p) w w') : LsOk B w' x wv nv :=
  ⟨owns_chg h.1 (fun k hk e => own_kind h.1 hR (by decide) (by rw [← e]; exact hk)) c, owns_chg h.2 (fun k hk e => own_kind h.2 hR (by decide) (by rw [← e]; exact hk)) c⟩
def REndS (x : RE Stm) (B : Nat) (w : World) (p g mb : Nat) (sv : Value) (e : Ending) (w' : World) : Prop :=
  match x with
  | .ok s ts => ∃ wv nv, e = .returned (stE s wv nv) ∧ LsOk B w' s wv nv ∧ PS B w' p g mb sv ts ∧ Chg (fun b => b = p) w w'
  | .no c ts => e = pnc c ∧ PS B w' p g mb sv ts ∧ Chg (fun b => b = p) w w'
set_option maxHeartbeats 1000000 in
theorem set11_heap {w : World} {q : Nat} {t : TypeId} {a0 a1 a2 a3 a4 a5 a6 a7 a8 a9 a10 u0 u1 u2 u3 u4 u5 u6 u7 u8 u9 u10 : Value} (h : w.heap[q]? = some (.cells #[u0, u1, u2, u3, u4, u5, u6, u7, u8, u9, u10] t (0, 0))) : (((((((((((w.setCell ⟨q, 0, none⟩ a0).setCell ⟨q, 1, none⟩ a1).setCell ⟨q, 2, none⟩ a2).setCell ⟨q, 3, none⟩ a3).setCell ⟨q, 4, none⟩ a4).setCell ⟨q, 5, none⟩ a5).setCell ⟨q, 6, none⟩ a6).setCell ⟨q, 7, none⟩ a7).setCell ⟨q, 8, none⟩ a8).setCell ⟨q, 9, none⟩ a9).setCell ⟨q, 10, none⟩ a10).heap[q]? = some (.cells #[a0, a1, a2, a3, a4, a5, a6, a7, a8, a9, a10] t (0, 0)) := by
  simp [World.setCell, Array.getElem?_modify, h]
theorem set11_chg (w : World) (q : Nat) (a0 a1 a2 a3 a4 a5 a6 a7 a8 a9 a10 : Value) : Chg (fun b => b = q) w (((((((((((w.setCell ⟨q, 0, none⟩ a0).setCell ⟨q, 1, none⟩ a1).setCell ⟨q, 2, none⟩ a2).setCell ⟨q, 3, none⟩ a3).setCell ⟨q, 4, none⟩ a4).setCell ⟨q, 5, none⟩ a5).setCell ⟨q, 6, none⟩ a6).setCell ⟨q, 7, none⟩ a7).setCell ⟨q, 8, none⟩ a8).setCell ⟨q, 9, none⟩ a9).setCell ⟨q, 10, none⟩ a10) := ((((((((((((Chg.refl (fun b => b = q) w).setCell (p := ⟨q, 0, none⟩) rfl a0).setCell (p := ⟨q, 1, none⟩) rfl a1).setCell (p := ⟨q, 2, none⟩) rfl a2).setCell (p := ⟨q, 3, none⟩) rfl a3).setCell (p := ⟨q, 4, none⟩) rfl a4).setCell (p := ⟨q, 5, none⟩) rfl a5).setCell (p := ⟨q, 6, none⟩) rfl a6).setCell (p := ⟨q, 7, none⟩) rfl a7).setCell (p := ⟨q, 8, none⟩) rfl a8).setCell (p := ⟨q, 9, none⟩) rfl a9).setCell (p := ⟨q, 10, none⟩) rfl a10)
theorem LsOk.nil (B : Nat) (w : World) (x : Stm) (hw : x.ws = []) (hn : x.ns = []) : LsOk B w x (.slice none 0 0) (.slice none 0 0) := by
  unfold LsOk
  rw [hw, hn]
  exact ⟨World.ownsRow_nil _ _ _ _, World.ownsRow_nil _ _ _ _⟩
theorem PS.setq {B : Nat} {w w' : World} {p g mb q : Nat} {sv : Value} {ts : List Lx.Tk} (h : PS B w p g mb sv ts) (c : Chg (fun b => b = q) w w') (h1 : ¬ p = q) (h2 : ¬ g = q) : PS B w' p g mb sv ts := by
  obtain ⟨off, cap, hr, ht, hc⟩ := h.st
  obtain ⟨cs, fr, h4⟩ := h.gk
  exact ⟨⟨off, cap, (c.block p (Array.getElem?_eq_some_iff.1 hr).1 h1).trans hr, ht.chg c h2, hc⟩, ⟨cs, fr, (c.block g (Array.getElem?_eq_some_iff.1 h4).1 h2).trans h4⟩, h.pB⟩
theorem PS.gl {B : Nat} {w : World} {p g mb : Nat} {sv : Value} {ts : List Lx.Tk} (h : PS B w p g mb sv ts) : p < w.heap.size ∧ g < w.heap.size := by
  obtain ⟨off, cap, hr, _⟩ := h.st
  obtain ⟨cs, fr, h4⟩ := h.gk
  exact ⟨(Array.getElem?_eq_some_iff.1 hr).1, (Array.getElem?_eq_some_iff.1 h4).1⟩
theorem size11 : (Tryz.prog.info? 60).map (·.size) = some 11 := by kernel_rfl
set_option maxRecDepth 20000 in
set_option maxHeartbeats 4000000 in
theorem named1_any (B : Nat) (w : World) (p g mb : Nat) (sv : Value) (ts : List Lx.Tk) (kb : Nat) (kd : Int) (h : PS B w p g mb sv ts) (hl : Lw ts) (hk : w.heap[kb]? = some (.cells #[.int .i64 kd] 3 (0, 0))) (hB : B ≤ w.heap.size) : Calls Tryz.prog 134 #[.pointer (some ⟨p, 0, none⟩), .pointer (some ⟨kb, 0, none⟩)] w (REndS (nmQ kd ts) B w p g mb sv) := by
  unfold nmQ
  obtain ⟨w1, hw1⟩ : ∃ w1, w1 = w.alloc (.cells #[.int .i64 0, .string ⟨#[]⟩, .slice none 0 0, .slice none 0 0, .int .i64 0, .int .i64 0, .int .i64 0, .int .i64 0, .int .i64 0, .string ⟨#[]⟩, .int .i64 0] 60) := ⟨_, rfl⟩
  have o1 : Out w w1 := by rw [hw1]; exact (Out.refl w).alloc _
  have b1 : w1.heap[w.heap.size]? = some (.cells #[.int .i64 0, .string ⟨#[]⟩, .slice none 0 0, .slice none 0 0, .int .i64 0, .int .i64 0, .int .i64 0, .int .i64 0, .int .i64 0, .string ⟨#[]⟩, .int .i64 0] 60 (0, 0)) := by rw [hw1]; exact heap_alloc_new w _
  have C := hidOf (fun m => word_any B (w1.drewN m) p g mb sv ts (h.out (o1.dN m)) hl)
  have k1 : w1.heap[kb]? = _ := (o1.block kb (Array.getElem?_eq_some_iff.1 hk).1).trans hk
  have q1 : w1.cell? ⟨kb, 0, none⟩ = some (.int .i64 kd) := by rw [cell_atL k1]; rfl
  have Hkp : Hid (¬ kb = p) := hidOf (fun e => by
    obtain ⟨off, cap, hr, _⟩ := h.st
    rw [e, show w.heap[p]? = _ from hr] at hk
    simp at hk)
  have Hpl : Hid (p < w.heap.size) := hidOf (by
    obtain ⟨off, cap, hr, _⟩ := h.st
    exact (Array.getElem?_eq_some_iff.1 hr).1)
  have Hgl : Hid (g < w.heap.size) := hidOf h.gl.2
  have Hkl : Hid (kb < w.heap.size) := hidOf (Array.getElem?_eq_some_iff.1 hk).1
  have K1 := hidOf k1
  have B1 := hidOf b1
  have O1 := hidOf o1
  have Hw1 := hidOf hw1
  clear h hk k1 b1 o1 hw1
  cases hq : wdQ ts with
  | ok x r =>
    rw [bind_ok]
    have C : Hid (∀ m, Calls Tryz.prog 96 #[.pointer (some ⟨p, 0, none⟩)] (w1.drewN m) fun e w' => e = .returned (.string ⟨x.toArray⟩) ∧ PS B w' p g mb sv r ∧ Chg (fun b => b = p) (w1.drewN m) w') := hidOf (fun m => by have := C.out m; rw [hq] at this; exact this)
    clear hq hl
    go_enter Tryz.func134, Tryz.ntmps134
    go_upto_region 1 with fail
    rw [← Hw1.out]
    refine wp_region_held_drew (S := (fun w' => w'.cell? ⟨kb, 0, none⟩ = some (.int .i64 kd))) (by kernel_rfl) ?_ (fun hHeld => ?_)
    · exact q1
    refine wpAnyH_take (i := 0) (v := ?_) rfl (by kernel_rfl) (by kernel_rfl) (by kernel_rfl) (fun _ _ _ h => h) (Or.inl ⟨by rfl, ?_⟩) (by assumption) ?_
    rotate_left
    · (intro w hSw; (try dsimp only at hSw); go_simp; (try with_reducible rfl))
    show wpAnyH _ _ _ _ _ _ _ (Act.put _ (some 4) _) _
    simp only [Act.put, List.setIfInBounds_toArray, List.set_cons_zero, List.set_cons_succ]
    refine wpAnyH_take (i := 1) (v := ?_) rfl (by kernel_rfl) (by kernel_rfl) (by kernel_rfl) (fun _ _ _ h => h) (Or.inl ⟨by rfl, ?_⟩) (by assumption) ?_
    rotate_left
    · (intro w hSw; (try dsimp only at hSw); go_simp; (try with_reducible rfl))
    show wpAnyH _ _ _ _ _ _ _ (Act.put _ (some 5) _) _
    simp only [Act.put, List.setIfInBounds_toArray, List.set_cons_zero, List.set_cons_succ]
    refine wpAnyH_ready (rs := [2]) (by kernel_rfl) (by simp) ?_
    refine AllReadyH.cons rfl (fun K hK => ?_) AllReadyH.nil
    rw [if_pos (by rfl)]
    go_simp
    go_at_call 96
    refine (C.out 1).mono ?_
    rintro e w2 ⟨rfl, hp, hc⟩
    have P2 := hidOf hp
    have C2 := hidOf (Chg.then2 (Chg.of_out ((Out.refl w1).dN 1)) hc)
    clear hp hc
    have hpk : ¬ kb = p := Hkp.out
    have k2 : w2.heap[kb]? = _ := (C2.out.block kb (Array.getElem?_eq_some_iff.1 K1.out).1 hpk).trans K1.out
    have b2 : w2.heap[w.heap.size]? = _ := (C2.out.block w.heap.size (Array.getElem?_eq_some_iff.1 B1.out).1 (fun e => by have := Hpl.out; omega)).trans B1.out
    have q2 : w2.cell? ⟨kb, 0, none⟩ = some (.int .i64 kd) := by rw [cell_atL k2]; rfl
    refine hK.out _ _ q2 (fun hHeld => ?_)
    refine wpAnyH_take (i := 3) (v := ?_) rfl (by kernel_rfl) (by kernel_rfl) (by kernel_rfl) (fun _ _ _ h => h) (Or.inl ⟨by rfl, ?_⟩) (by assumption) ?_
    rotate_left
    · (intro w hSw; (try dsimp only at hSw); go_simp; (try with_reducible rfl))
    show wpAnyH _ _ _ _ _ _ _ (Act.put _ (some 7) _) _
    simp only [Act.put, List.setIfInBounds_toArray, List.set_cons_zero, List.set_cons_succ]
    refine wpAnyH_ready (rs := [4]) (by kernel_rfl) (by simp) ?_
    refine AllReadyH.cons rfl (fun K2 hK2 => ?_) AllReadyH.nil
    rw [if_pos (by rfl)]
    have z0 : w2.cell? ⟨w.heap.size, 0, none⟩ = some (.int .i64 0) := by rw [cell_atL b2]; rfl
    have z1 : w2.cell? ⟨w.heap.size, 1, none⟩ = some (.string ⟨#[]⟩) := by rw [cell_atL b2]; rfl
    have z2 : w2.cell? ⟨w.heap.size, 2, none⟩ = some (.slice none 0 0) := by rw [cell_atL b2]; rfl
    have z3 : w2.cell? ⟨w.heap.size, 3, none⟩ = some (.slice none 0 0) := by rw [cell_atL b2]; rfl
    have z4 : w2.cell? ⟨w.heap.size, 4, none⟩ = some (.int .i64 0) := by rw [cell_atL b2]; rfl
    have z5 : w2.cell? ⟨w.heap.size, 5, none⟩ = some (.int .i64 0) := by rw [cell_atL b2]; rfl
    have z6 : w2.cell? ⟨w.heap.size, 6, none⟩ = some (.int .i64 0) := by rw [cell_atL b2]; rfl
    have z7 : w2.cell? ⟨w.heap.size, 7, none⟩ = some (.int .i64 0) := by rw [cell_atL b2]; rfl
    have z8 : w2.cell? ⟨w.heap.size, 8, none⟩ = some (.int .i64 0) := by rw [cell_atL b2]; rfl
    have z9 : w2.cell? ⟨w.heap.size, 9, none⟩ = some (.string ⟨#[]⟩) := by rw [cell_atL b2]; rfl
    have z10 : w2.cell? ⟨w.heap.size, 10, none⟩ = some (.int .i64 0) := by rw [cell_atL b2]; rfl
    have f0 := frozen_atL b2 0
    have f1 := frozen_atL b2 1
    have f2 := frozen_atL b2 2
    have f3 := frozen_atL b2 3
    have f4 := frozen_atL b2 4
    have f5 := frozen_atL b2 5
    have f6 := frozen_atL b2 6
    have f7 := frozen_atL b2 7
    have f8 := frozen_atL b2 8
    have f9 := frozen_atL b2 9
    have f10 := frozen_atL b2 10
    have Hb2 := hidOf b2
    clear b2 k2
    go_simp
    have c3 := set11_chg w2 w.heap.size (.int .i64 kd) (.string ⟨x.toArray⟩) (.slice none 0 0) (.slice none 0 0) (.int .i64 0) (.int .i64 0) (.int .i64 0) (.int .i64 0) (.int .i64 0) (.string ⟨#[]⟩) (.int .i64 0)
    have b3 := set11_heap (a0 := .int .i64 kd) (a1 := .string ⟨x.toArray⟩) (a2 := .slice none 0 0) (a3 := .slice none 0 0) (a4 := .int .i64 0) (a5 := .int .i64 0) (a6 := .int .i64 0) (a7 := .int .i64 0) (a8 := .int .i64 0) (a9 := .string ⟨#[]⟩) (a10 := .int .i64 0) Hb2.out
    refine hK2.out _ _ (c3.cell q2 (fun e => by have := Hkl.out; have e' : kb = w.heap.size := e; omega)) (fun hHeld => ?_)
    have B3 := hidOf b3
    have C3 := hidOf c3
    clear b3 c3 z0 z1 z2 z3 z4 z5 z6 z7 z8 z9 z10 f0 f1 f2 f3 f4 f5 f6 f7 f8 f9 f10 Hb2
    refine wpAnyH_done (by kernel_rfl) ?_ _
    go_wp2
    refine bodyPost_ret (results_cell_row rfl _ _ w.heap.size 60 _ (0, 0) _ rfl B3.out Tryz.underlying60 rfl size11) rfl ?_
    have hl2 := P2.out.gl
    refine ⟨_, _, rfl, LsOk.nil B _ (nmS kd x) rfl rfl, P2.out.setq C3.out (fun e => by have := Hpl.out; omega) (fun e => by have := Hgl.out; omega), (Chg.then2 (Chg.of_out O1.out) C2.out).trans C3.out (fun x hx hlt => by omega)⟩
  | no c r =>
    rw [bind_no]
    have C : Hid (∀ m, Calls Tryz.prog 96 #[.pointer (some ⟨p, 0, none⟩)] (w1.drewN m) fun e w' => e = .panicked [{ v := .iface 49 (.int .i64 c), recovered := false }] ∧ PS B w' p g mb sv r ∧ Chg (fun b => b = p) (w1.drewN m) w') := hidOf (fun m => by have := C.out m; rw [hq] at this; exact this)
    clear hq hl
    go_enter Tryz.func134, Tryz.ntmps134
    go_upto_region 1 with fail
    rw [← Hw1.out]
    refine wp_region_held_drew (S := (fun w' => w'.cell? ⟨kb, 0, none⟩ = some (.int .i64 kd))) (by kernel_rfl) ?_ (fun hHeld => ?_)
    · exact q1
    refine wpAnyH_take (i := 0) (v := ?_) rfl (by kernel_rfl) (by kernel_rfl) (by kernel_rfl) (fun _ _ _ h => h) (Or.inl ⟨by rfl, ?_⟩) (by assumption) ?_
    rotate_left
    · (intro w hSw; (try dsimp only at hSw); go_simp; (try with_reducible rfl))
    show wpAnyH _ _ _ _ _ _ _ (Act.put _ (some 4) _) _
    simp only [Act.put, List.setIfInBounds_toArray, List.set_cons_zero, List.set_cons_succ]
    refine wpAnyH_take (i := 1) (v := ?_) rfl (by kernel_rfl) (by kernel_rfl) (by kernel_rfl) (fun _ _ _ h => h) (Or.inl ⟨by rfl, ?_⟩) (by assumption) ?_
    rotate_left
    · (intro w hSw; (try dsimp only at hSw); go_simp; (try with_reducible rfl))
    show wpAnyH _ _ _ _ _ _ _ (Act.put _ (some 5) _) _
    simp only [Act.put, List.setIfInBounds_toArray, List.set_cons_zero, List.set_cons_succ]
    refine wpAnyH_ready (rs := [2]) (by kernel_rfl) (by simp) ?_
    refine AllReadyH.cons rfl (fun K hK => ?_) AllReadyH.nil
    rw [if_pos (by rfl)]
    go_simp
    go_at_call 96
    refine (C.out 1).mono ?_
    rintro e w2 ⟨rfl, hp, hc⟩
    have P2 := hidOf hp
    have C2 := hidOf (Chg.then2 (Chg.of_out ((Out.refl w1).dN 1)) hc)
    clear hp hc
    exact ⟨rfl, rfl, P2.out, Chg.then2 (Chg.of_out O1.out) C2.out⟩
end Go.Proofs.YtkihaohdcgjioaaGreatDoor
namespace Go.Proofs.YtkihaohdcgjioaaGreatDoor.Lx
open Go.RowKit
set_option linter.unusedVariables false
set_option linter.unusedSimpArgs false
def Tk.agg (x : Tk) : Value := .agg #[.int .i64 x.k, .string ⟨x.t.toArray⟩, .int .u64 x.n, .int .i64 x.l]
def dotP (l : List UInt8) : Bool := Lib.hasPrefix l [46] && wordP (Lib.trimPrefix l [46])
def mayP (x : Tk) : Int :=
  if x.k = 1 then (if wordP x.t = true then (if x.n = 0 then 0 else 52) else 53)
  else if x.k = 2 then (if dotP x.t = true then (if x.n = 0 then 0 else 52) else 53)
  else if x.k = 3 then (if x.t = [] then 0 else 54)
  else if x.k = 4 then (if markB x.t = true then (if x.n = 0 then 0 else 52) else 52)
  else if x.k = 5 ∨ x.k = 0 then (if x.t = [] then (if x.n = 0 then 0 else 52) else 52)
  else 52
set_option maxHeartbeats 4000000 in
theorem may_any (x : Tk) (w : World) (ht : x.t.length ≤ 4611686018427387904) : Calls Tryz.prog 130 #[.agg #[.int .i64 x.k, .string ⟨x.t.toArray⟩, .int .u64 x.n, .int .i64 x.l]] w fun e w' => e = .returned (.int .i64 (mayP x)) ∧ Out w w' := by
  obtain ⟨k, t, n, l⟩ := x
  simp only at ht ⊢
  have c0 : ∀ cs : Array Value, ∀ j, (w.alloc (.cells cs 117)).cell? ⟨w.heap.size, j, none⟩ = cs[j]? := fun cs j => cell_fresh _ _ _ _ _ rfl
  have HO : Hid (Out w (w.alloc (.cells #[.int .i64 k, .string ⟨t.toArray⟩, .int .u64 n, .int .i64 l] 117))) := (Out.refl w).alloc _
  have d0 : (w.alloc (.cells #[.int .i64 k, .string ⟨t.toArray⟩, .int .u64 n, .int .i64 l] 117)).cell? ⟨w.heap.size, 0, none⟩ = some (.int .i64 k) := c0 _ 0
  have d1 : (w.alloc (.cells #[.int .i64 k, .string ⟨t.toArray⟩, .int .u64 n, .int .i64 l] 117)).cell? ⟨w.heap.size, 1, none⟩ = some (.string ⟨t.toArray⟩) := c0 _ 1
  have d2 : (w.alloc (.cells #[.int .i64 k, .string ⟨t.toArray⟩, .int .u64 n, .int .i64 l] 117)).cell? ⟨w.heap.size, 2, none⟩ = some (.int .u64 n) := c0 _ 2
  clear c0
  have CW : Hid (∀ (y : List UInt8) wx, y.length ≤ 4611686018427387904 → Calls Tryz.prog 170 #[.string ⟨y.toArray⟩] wx fun e w' => e = .returned (.bool (wordP y)) ∧ wx = w') := fun y wx hy => by
    have h := isWord_any ⟨y.toArray⟩ wx (by rw [mk_size]; exact hy)
    rw [mk_list] at h
    exact h
  have CM : Hid (∀ wx, Calls Tryz.prog 172 #[.string ⟨t.toArray⟩] wx fun e w' => e = .returned (.bool (markB t)) ∧ wx = w') := fun wx => by
    have h := isMark_any ⟨t.toArray⟩ wx
    rw [mk_list] at h
    exact h
  have CC : Hid (∀ wx, Calls Tryz.prog 171 #[.string ⟨t.toArray⟩, .string ⟨#[46]⟩] wx fun e w' => e = .returned (.tuple #[.string ⟨(Lib.trimPrefix t [46]).toArray⟩, .bool (Lib.hasPrefix t [46])]) ∧ w' = wx) := fun wx => Tryz.strings_CutPrefix ⟨t.toArray⟩ ⟨#[46]⟩ wx
  have htp : (Lib.trimPrefix t [46]).length ≤ 4611686018427387904 := by
    unfold Lib.trimPrefix
    split
    · rw [List.length_drop]; omega
    · exact ht
  have hn1 : n = 0 → (n == 0) = true := fun h => by simp [h]
  have hn2 : ¬ n = 0 → (n == 0) = false := fun h => by simpa using h
  have ht1 : t = [] → t.isEmpty = true := fun h => by simp [h]
  have ht2 : ¬ t = [] → t.isEmpty = false := fun h => by cases t with | nil => exact absurd rfl h | cons a b => rfl
  by_cases k1 : k = 1
  · subst k1
    cases hw : wordP t
    · have hP : mayP ⟨1, t, n, l⟩ = 53 := by simp [mayP, hw]
      rw [hP]
      go_enter Tryz.func130, Tryz.ntmps130
      go_wp2_with (go_at_call 170; refine (CW.out t _ ht).mono ?_; rw [hw]; rintro e w1 ⟨rfl, rfl⟩)
      go_ret
      exact ⟨rfl, (Out.refl w).alloc _⟩
    · by_cases hn : n = 0
      · have hP : mayP ⟨1, t, n, l⟩ = 0 := by simp [mayP, hw, hn]
        rw [hP]
        have hn' := hn1 hn
        go_enter Tryz.func130, Tryz.ntmps130
        go_wp2_with (go_at_call 170; refine (CW.out t _ ht).mono ?_; rw [hw]; rintro e w1 ⟨rfl, rfl⟩)
        go_ret
        exact ⟨rfl, (Out.refl w).alloc _⟩
      · have hP : mayP ⟨1, t, n, l⟩ = 52 := by simp [mayP, hw, hn]
        rw [hP]
        have hn' := hn2 hn
        go_enter Tryz.func130, Tryz.ntmps130
        go_wp2_with (go_at_call 170; refine (CW.out t _ ht).mono ?_; rw [hw]; rintro e w1 ⟨rfl, rfl⟩)
        go_ret
        exact ⟨rfl, (Out.refl w).alloc _⟩
  by_cases k2 : k = 2
  · subst k2
    cases hp : Lib.hasPrefix t [46]
    · have hP : mayP ⟨2, t, n, l⟩ = 53 := by simp [mayP, dotP, hp]
      rw [hP]
      go_enter Tryz.func130, Tryz.ntmps130
      go_wp2_with (go_at_call 171; refine (CC.out _).mono ?_; rw [hp]; rintro e w1 ⟨rfl, hw⟩; subst hw)
      go_ret
      exact ⟨rfl, (Out.refl w).alloc _⟩
    · cases hw : wordP (Lib.trimPrefix t [46])
      · have hP : mayP ⟨2, t, n, l⟩ = 53 := by simp [mayP, dotP, hp, hw]
        rw [hP]
        go_enter Tryz.func130, Tryz.ntmps130
        go_wp2_with (first | (go_at_call 171; refine (CC.out _).mono ?_; rw [hp]; rintro e w1 ⟨rfl, hw⟩; subst hw) | (go_at_call 170; refine (CW.out _ _ htp).mono ?_; rw [hw]; rintro e w1 ⟨rfl, rfl⟩))
        go_ret
        exact ⟨rfl, (Out.refl w).alloc _⟩
      · by_cases hn : n = 0
        · have hP : mayP ⟨2, t, n, l⟩ = 0 := by simp [mayP, dotP, hp, hw, hn]
          rw [hP]
          have hn' := hn1 hn
          go_enter Tryz.func130, Tryz.ntmps130
          go_wp2_with (first | (go_at_call 171; refine (CC.out _).mono ?_; rw [hp]; rintro e w1 ⟨rfl, hw⟩; subst hw) | (go_at_call 170; refine (CW.out _ _ htp).mono ?_; rw [hw]; rintro e w1 ⟨rfl, rfl⟩))
          go_ret
          exact ⟨rfl, (Out.refl w).alloc _⟩
        · have hP : mayP ⟨2, t, n, l⟩ = 52 := by simp [mayP, dotP, hp, hw, hn]
          rw [hP]
          have hn' := hn2 hn
          go_enter Tryz.func130, Tryz.ntmps130
          go_wp2_with (first | (go_at_call 171; refine (CC.out _).mono ?_; rw [hp]; rintro e w1 ⟨rfl, hw⟩; subst hw) | (go_at_call 170; refine (CW.out _ _ htp).mono ?_; rw [hw]; rintro e w1 ⟨rfl, rfl⟩))
          go_ret
          exact ⟨rfl, (Out.refl w).alloc _⟩
  have j1 : (k == 1) = false := by simpa using k1
  have j2 : (k == 2) = false := by simpa using k2
  by_cases k3 : k = 3
  · subst k3
    by_cases hte : t = []
    · have hP : mayP ⟨3, t, n, l⟩ = 0 := by simp [mayP, hte]
      rw [hP]
      have he := ht1 hte
      clear CC CM CW
      go_enter Tryz.func130, Tryz.ntmps130
      go_wp2
      go_ret
      exact ⟨rfl, (Out.refl w).alloc _⟩
    · have hP : mayP ⟨3, t, n, l⟩ = 54 := by simp [mayP, hte]
      rw [hP]
      have he := ht2 hte
      clear CC CM CW
      go_enter Tryz.func130, Tryz.ntmps130
      go_wp2
      go_ret
      exact ⟨rfl, (Out.refl w).alloc _⟩
  have j3 : (k == 3) = false := by simpa using k3
  by_cases k4 : k = 4
  · subst k4
    cases hw : markB t
    · have hP : mayP ⟨4, t, n, l⟩ = 52 := by simp [mayP, hw]
      rw [hP]
      go_enter Tryz.func130, Tryz.ntmps130
      go_wp2_with (go_at_call 172; refine (CM.out _).mono ?_; rw [hw]; rintro e w1 ⟨rfl, rfl⟩)
      go_ret
      exact ⟨rfl, (Out.refl w).alloc _⟩
    · by_cases hn : n = 0
      · have hP : mayP ⟨4, t, n, l⟩ = 0 := by simp [mayP, hw, hn]
        rw [hP]
        have hn' := hn1 hn
        go_enter Tryz.func130, Tryz.ntmps130
        go_wp2_with (go_at_call 172; refine (CM.out _).mono ?_; rw [hw]; rintro e w1 ⟨rfl, rfl⟩)
        go_ret
        exact ⟨rfl, (Out.refl w).alloc _⟩
      · have hP : mayP ⟨4, t, n, l⟩ = 52 := by simp [mayP, hw, hn]
        rw [hP]
        have hn' := hn2 hn
        go_enter Tryz.func130, Tryz.ntmps130
        go_wp2_with (go_at_call 172; refine (CM.out _).mono ?_; rw [hw]; rintro e w1 ⟨rfl, rfl⟩)
        go_ret
        exact ⟨rfl, (Out.refl w).alloc _⟩
  have j4 : (k == 4) = false := by simpa using k4
  clear CC CM CW
  by_cases k5 : k = 5 ∨ k = 0
  · have hP : mayP ⟨k, t, n, l⟩ = (if t = [] then (if n = 0 then 0 else 52) else 52) := by simp [mayP, k1, k2, k3, k4, k5]
    rw [hP]
    by_cases hte : t = []
    · have he := ht1 hte
      rw [if_pos hte]
      by_cases hn : n = 0
      · have hn' := hn1 hn
        rw [if_pos hn]
        rcases k5 with rfl | rfl
        all_goals (
          go_enter Tryz.func130, Tryz.ntmps130
          go_wp2
          go_ret
          exact ⟨rfl, (Out.refl w).alloc _⟩)
      · have hn' := hn2 hn
        rw [if_neg hn]
        rcases k5 with rfl | rfl
        all_goals (
          go_enter Tryz.func130, Tryz.ntmps130
          go_wp2
          go_ret
          exact ⟨rfl, (Out.refl w).alloc _⟩)
    · have he := ht2 hte
      rw [if_neg hte]
      rcases k5 with rfl | rfl
      all_goals (
        go_enter Tryz.func130, Tryz.ntmps130
        go_wp2
        go_ret
        exact ⟨rfl, (Out.refl w).alloc _⟩)
  · have hP : mayP ⟨k, t, n, l⟩ = 52 := by simp [mayP, k1, k2, k3, k4, k5]
    rw [hP]
    have j5 : (k == 5) = false := by simp only [beq_eq_false_iff_ne]; exact fun h => k5 (.inl h)
    have j0 : (k == 0) = false := by simp only [beq_eq_false_iff_ne]; exact fun h => k5 (.inr h)
    go_enter Tryz.func130, Tryz.ntmps130
    go_wp2
    go_ret
    exact ⟨rfl, (Out.refl w).alloc _⟩
end Go.Proofs.YtkihaohdcgjioaaGreatDoor.Lx
