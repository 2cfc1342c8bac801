import Derived.Test.YtkihaohdcgjioaaGreatDoorGr34
import Derived.Defers
import Derived.Recover
namespace Go.Proofs.YtkihaohdcgjioaaGreatDoor
open Go.RowKit
set_option linter.unusedVariables false
set_option linter.unusedSimpArgs false
theorem inQ_cl {P : List Lx.Tk → Prop} (hP : Clo P) {ts : List Lx.Tk} (h : P ts) : P (inQ ts).rest := by
  unfold inQ
  by_cases e : (parseP (ixQ [] ts).1).e = 0
  · rw [if_pos e]; exact ixQ_cl hP [] ts h
  · rw [if_neg e]; exact ixQ_cl hP [] ts h
theorem stQ_cl {P : List Lx.Tk → Prop} (hP : Clo P) {out : List Stm} {ts : List Lx.Tk} (h : P ts) : P (stQ out ts).rest := by
  unfold stQ
  by_cases e : kindQ ts = 5
  · rw [if_pos e]; exact h
  rw [if_neg e]
  refine rest_bind ?_ (fun _ _ h => h)
  by_cases e1 : kindQ ts = 1
  · rw [if_pos e1]; exact inQ_cl hP h
  · rw [if_neg e1]; exact dirQ_cl hP h
theorem lnQ_cl {P : List Lx.Tk → Prop} (hP : Clo P) {out : List Stm} {ts : List Lx.Tk} (h : P ts) : P (lnQ out ts).rest :=
  rest_bind (stQ_cl hP (lbQ_cl hP ts.length out ts (Nat.le_refl _) h)) (fun _ _ h => rest_bind (tkQ_cl hP h) (fun _ _ h => h))
theorem len_clo (n : Nat) : Clo (fun r : List Lx.Tk => r.length ≤ n) := fun t r h => by
  simp only [List.length_cons] at h
  omega
theorem lbQ_len : ∀ (n : Nat) (out : List Stm) (ts : List Lx.Tk), ts.length ≤ n → (lbQ out ts).1.length + (lbQ out ts).2.length ≤ out.length + ts.length
  | _, out, [], _ => by unfold lbQ; simp
  | _, out, [t], _ => by unfold lbQ; simp
  | 0, out, t :: u :: r, hn => by simp at hn
  | n + 1, out, t :: u :: r, hn => by
    unfold lbQ
    by_cases e : t.k = 1 ∧ colQ u = true
    · rw [if_pos e]
      have := lbQ_len n (out ++ [{ nmS 1 t.t with l := u.l }]) r (by simp at hn; omega)
      simp only [List.length_append, List.length_cons, List.length_nil] at this ⊢
      omega
    · rw [if_neg e]; simp
def LnF (out : List Stm) (ts : List Lx.Tk) : RE (List Stm) → Prop
  | .ok o r => Tw r ∧ r.length < ts.length ∧ o.length + r.length ≤ out.length + ts.length
  | .no c r => Lw r
theorem lnQ_f {out : List Stm} {ts : List Lx.Tk} (h : Lw ts) : LnF out ts (lnQ out ts) := by
  have hL := lbQ_lw ts.length out ts (Nat.le_refl _) h
  have hn := lbQ_len ts.length out ts (Nat.le_refl _)
  have hn2 : (lbQ out ts).2.length ≤ ts.length := lbQ_cl (len_clo ts.length) ts.length out ts (Nat.le_refl _) (Nat.le_refl _)
  unfold lnQ
  generalize hA : lbQ out ts = A at *
  obtain ⟨L, r⟩ := A
  simp only at hL hn hn2 ⊢
  have hS : (stQ L r).lw := stQ_lw hL
  have hSl : (stQ L r).rest.length ≤ r.length := stQ_cl (P := fun x => x.length ≤ r.length) (len_clo r.length) (Nat.le_refl _)
  have hSo : ∀ o r', stQ L r = .ok o r' → o.length ≤ L.length + 1 := fun o r' e => by
    unfold stQ at e
    by_cases e5 : kindQ r = 5
    · rw [if_pos e5] at e; cases e; omega
    rw [if_neg e5] at e
    generalize (if kindQ r = 1 then inQ r else dirQ r) = Z at e
    cases Z with
    | no c r => cases e
    | ok s r => cases e; simp
  cases hz : stQ L r with
  | no c r' => rw [hz] at hS; exact hS
  | ok o r' =>
    have hSo := hSo o r' hz
    rw [hz] at hS hSl
    have hS : Lw r' := hS
    have hSl : r'.length ≤ r.length := hSl
    rw [bind_ok]
    obtain ⟨t, u, r2, rfl⟩ := hS.two
    by_cases hk : t.k = 5
    · rw [tk_ok hk, bind_ok]
      refine ⟨hS.pass hk, ?_, ?_⟩
      · simp only [List.length_cons] at hSl ⊢; omega
      · simp only [List.length_cons] at hSl ⊢; omega
    · rw [show tkQ 5 (t :: u :: r2) = .no 60 (t :: u :: r2) by
        show (if t.k = 5 then RE.ok t (u :: r2) else RE.no 60 (t :: u :: r2)) = _
        rw [if_neg hk]]
      exact hS
theorem rd_step {n : Nat} {out : List Stm} {ts : List Lx.Tk} (h : ¬ kindQ ts = 0) : rdF (n + 1) out ts = (lnQ out ts).bind fun o r => rdF n o r := by
  conv => lhs; unfold rdF
  rw [if_neg h]
theorem rd_stop {n : Nat} {out : List Stm} {ts : List Lx.Tk} (h : kindQ ts = 0) : rdF n out ts = .ok out ts := by
  cases n with
  | zero => rfl
  | succ n => unfold rdF; rw [if_pos h]
set_option maxRecDepth 20000 in
set_option maxHeartbeats 2000000 in
theorem statementCount_any (w : World) (g off cap : Nat) (ts : List Lx.Tk) (hT : TkR w g off ts) (hc : ts.length ≤ cap) (hlen : ts.length ≤ 1000000000) :
    Calls Tryz.prog 62 #[.slice (some ⟨g, off, none⟩) ts.length cap] w fun e w' => ∃ c : Nat, e = .returned (.int .i64 c) ∧ c ≤ ts.length ∧ Out w w' := by
  obtain ⟨n, hn⟩ : ∃ n, n = ts.length := ⟨_, rfl⟩
  have Hn := hidOf hn
  have HT := hidOf hT
  have Hc := hidOf hc
  rw [← hn] at hlen hc ⊢
  clear hn hT
  go_enter Tryz.func62, Tryz.ntmps62
  go_upto_region 3 with fail
  go_loopw [3, 4, 9] (fun c o i wr => ∃ (C O I : Nat), c = .int .i64 C ∧ o = .int .i64 O ∧ i = .int .i64 I ∧ O ≤ 1 ∧ C + O ≤ I ∧ I ≤ n ∧ Hid (Out w wr)) (fun _ _ i _ => n - (intOf i).toNat)
  case atStart => exact ⟨0, 0, 0, rfl, rfl, rfl, by omega, by omega, by omega, hidOf (Out.refl w)⟩
  case round =>
    obtain ⟨C, O, I, rfl, rfl, rfl, hO, hCO, hI, HO⟩ := hrel
    by_cases hlt : I < n
    · have hltI : (I : Int) < n := by omega
      obtain ⟨t, ht⟩ : ∃ t, ts[I]? = some t := ⟨_, List.getElem?_eq_getElem (by have := Hn.out; omega)⟩
      obtain ⟨q0, q1, q2, q3⟩ := HT.out I t ht
      have q0 := cell_later HO.out q0
      have q1 := cell_later HO.out q1
      have q2 := cell_later HO.out q2
      have q3 := cell_later HO.out q3
      have CC := hidOf (isColon_any t)
      unfold tkE at CC
      clear ht
      go_upto_region 6 with fail
      obtain ⟨w2, hw2⟩ : ∃ w2, w2 = wr.alloc (.cells #[.int .i64 t.k, .string ⟨t.t.toArray⟩, .int .u64 t.n, .int .i64 t.l] 117) := ⟨_, rfl⟩
      have O2 : Hid (Out w w2) := hidOf (by rw [hw2]; exact HO.out.alloc _)
      have b2 : w2.heap[wr.heap.size]? = some (.cells #[.int .i64 t.k, .string ⟨t.t.toArray⟩, .int .u64 t.n, .int .i64 t.l] 117 (0, 0)) := by rw [hw2]; exact heap_alloc_new wr _
      rw [← hw2]
      have m0 : w2.cell? ⟨wr.heap.size, 0, none⟩ = some (.int .i64 t.k) := by rw [cell_atL b2]; rfl
      have m1 : w2.cell? ⟨wr.heap.size, 1, none⟩ = some (.string ⟨t.t.toArray⟩) := by rw [cell_atL b2]; rfl
      have m2 : w2.cell? ⟨wr.heap.size, 2, none⟩ = some (.int .u64 t.n) := by rw [cell_atL b2]; rfl
      have m3 : w2.cell? ⟨wr.heap.size, 3, none⟩ = some (.int .i64 t.l) := by rw [cell_atL b2]; rfl
      clear hw2 b2 q0 q1 q2 q3
      cases hcol : colQ t with
      | true =>
        rw [hcol] at CC
        go_wp2_with (go_at_call 93; refine (CC.out _).mono ?_; rintro e w3 ⟨rfl, ho⟩; have O3 := hidOf (O2.out.trans ho); clear ho)
        go_roundw
        case rel => exact ⟨C + 1, 0, I + 1, by simp, rfl, by simp, by omega, by omega, by omega, O3⟩
        case measure => simp [intOf]; omega
      | false =>
        rw [hcol] at CC
        have M0 : Hid (∀ wx, Out w2 wx → wx.cell? ⟨wr.heap.size, 0, none⟩ = some (.int .i64 t.k)) := hidOf (fun wx o => cell_later o m0)
        cases hk : (t.k == 5) with
        | true =>
          go_wp2_with (go_at_call 93; refine (CC.out _).mono ?_; rintro e w3 ⟨rfl, ho⟩; have O3 := hidOf (O2.out.trans ho); have m30 := M0.out _ ho; clear ho m0 m1 m2 m3)
          go_roundw
          case rel => exact ⟨C + O, 0, I + 1, by simp, rfl, by simp, by omega, by omega, by omega, O3⟩
          case measure => simp [intOf]; omega
        | false =>
          go_wp2_with (go_at_call 93; refine (CC.out _).mono ?_; rintro e w3 ⟨rfl, ho⟩; have O3 := hidOf (O2.out.trans ho); have m30 := M0.out _ ho; clear ho m0 m1 m2 m3)
          go_roundw
          case rel => exact ⟨C, 1, I + 1, rfl, rfl, by simp, by omega, by omega, by omega, O3⟩
          case measure => simp [intOf]; omega
    · have e : I = n := by omega
      subst e
      go_wp2
      go_ret
      exact ⟨C, rfl, by have := Hn.out; omega, HO.out⟩
set_option maxRecDepth 20000 in
theorem catch_idle6 (a b c d : Addr) (w : World) :
    CallsD Tryz.prog 63 #[.pointer (some a), .pointer (some b), .pointer (some c), .pointer (some d)] .returning w fun e u' w' => e = .returned (.tuple #[]) ∧ u' = .returning ∧ w' = w := by
  refine callsD_of_wpS Tryz.func63 rfl fun c₀ cs hu => ?_
  apply wpS_seq
  apply wpS_region
  simp [wpOpsS, go_sem, recoverD, hu, Tryz.ntmps63, Exit.thenS]
  refine wpS_of_wp ?_
  simp only [Array.replicate_succ, Array.replicate_zero, List.push_toArray, List.append_toArray, List.nil_append, List.cons_append, List.setIfInBounds_toArray, List.set_cons_zero, List.set_cons_succ, List.set_nil]
  go_wp2
  cases c₀
  simp_all [bodyPostS, results, Tryz.results63]
set_option maxRecDepth 20000 in
set_option maxHeartbeats 1000000 in
theorem catch_pan6 (p g off n cap : Nat) (a1 a2 a3 : Nat) (c l : Int) (w : World) (hn : 1 ≤ n) (h0 : w.cell? ⟨p, 0, none⟩ = some (.slice (some ⟨g, off, none⟩) n cap)) (h1 : w.cell? ⟨g, off + 3, none⟩ = some (.int .i64 l))
    (x1 x2 x3 : Value) (k1 : w.heap[a1]? = some (.cells #[x1] 43 (0, 0))) (k2 : w.heap[a2]? = some (.cells #[x2] 3 (0, 0))) (k3 : w.heap[a3]? = some (.cells #[x3] 49 (0, 0)))
    (hp : ¬ p = a1 ∧ ¬ p = a2 ∧ ¬ p = a3) (hg : ¬ g = a1 ∧ ¬ g = a2 ∧ ¬ g = a3) (h12 : ¬ a1 = a2 ∧ ¬ a1 = a3 ∧ ¬ a2 = a3) :
    CallsD Tryz.prog 63 #[.pointer (some ⟨p, 0, none⟩), .pointer (some ⟨a1, 0, none⟩), .pointer (some ⟨a2, 0, none⟩), .pointer (some ⟨a3, 0, none⟩)] (.panicking [{ v := .iface 49 (.int .i64 c), recovered := false }]) w fun e u' w' => e = .returned (.tuple #[]) ∧ u' = .panicking [{ v := .iface 49 (.int .i64 c), recovered := true }] ∧ w' = (((w.setCell ⟨a1, 0, none⟩ (.slice none 0 0)).drew).setCell ⟨a2, 0, none⟩ (.int .i64 l)).setCell ⟨a3, 0, none⟩ (.int .i64 c) := by
  have hnI : 0 < n := by omega
  have hta : ∀ wy : World, (Instr.typeAssert (.iface 49 (.int .i64 c)) 20 49 false).run Tryz.prog wy = .ok (.int .i64 c) wy := fun _ => by kernel_rfl
  obtain ⟨wa, hwa⟩ : ∃ wa, wa = (w.setCell ⟨a1, 0, none⟩ (.slice none 0 0)).drew := ⟨_, rfl⟩
  obtain ⟨wb, hwb⟩ : ∃ wb, wb = wa.setCell ⟨a2, 0, none⟩ (.int .i64 l) := ⟨_, rfl⟩
  obtain ⟨wc, hwc⟩ : ∃ wc, wc = wb.setCell ⟨a3, 0, none⟩ (.int .i64 c) := ⟨_, rfl⟩
  rw [← hwa, ← hwb, ← hwc]
  have ca : Chg (fun b => b = a1) w wa := by rw [hwa]; exact (Chg.setCell (S := fun b => b = a1) (Chg.refl _ w) (p := ⟨a1, 0, none⟩) rfl _).drew
  have cb : Chg (fun b => b = a2) wa wb := by rw [hwb]; exact Chg.setCell (S := fun b => b = a2) (Chg.refl _ wa) (p := ⟨a2, 0, none⟩) rfl _
  have cc : Chg (fun b => b = a3) wb wc := by rw [hwc]; exact Chg.setCell (S := fun b => b = a3) (Chg.refl _ wb) (p := ⟨a3, 0, none⟩) rfl _
  have ha1 : w.heap[a1]? = _ := k1
  have k2a : wa.heap[a2]? = _ := (ca.block a2 (Array.getElem?_eq_some_iff.1 k2).1 (fun e => h12.1 e.symm)).trans k2
  have k3b : wb.heap[a3]? = _ := (cb.block a3 (by have := (Array.getElem?_eq_some_iff.1 k3).1; have := ca.size; omega) (fun e => h12.2.2 e.symm)).trans ((ca.block a3 (Array.getElem?_eq_some_iff.1 k3).1 (fun e => h12.2.1 e.symm)).trans k3)
  have z1 : (w.drew).cell? ⟨a1, 0, none⟩ = some x1 := by rw [cell_atL (show (w.drew).heap[a1]? = _ from k1)]; rfl
  have f1 : (w.drew).frozen? ⟨a1, 0, none⟩ = false := frozen_atL (show (w.drew).heap[a1]? = _ from k1) 0
  have z2 : wa.cell? ⟨a2, 0, none⟩ = some x2 := by rw [cell_atL k2a]; rfl
  have f2 : wa.frozen? ⟨a2, 0, none⟩ = false := frozen_atL k2a 0
  have z3 : wb.cell? ⟨a3, 0, none⟩ = some x3 := by rw [cell_atL k3b]; rfl
  have f3 : wb.frozen? ⟨a3, 0, none⟩ = false := frozen_atL k3b 0
  have s0a := ca.cell h0 hp.1
  have s1a := ca.cell h1 hg.1
  have s0b := cb.cell s0a hp.2.1
  have s1b := cb.cell s1a hg.2.1
  have s0c := cc.cell s0b hp.2.2
  have s1c := cc.cell s1b hg.2.2
  have Hwa := hidOf hwa
  have Hwb := hidOf hwb
  have Hwc := hidOf hwc
  have SA := hidOf (And.intro s0a s1a)
  have SB := hidOf (And.intro s0b s1b)
  have SC := hidOf (And.intro s0c s1c)
  clear hwa hwb hwc ca cb cc k1 k2 k3 ha1 k2a k3b s0a s1a s0b s1b s0c s1c hp hg h12
  refine callsD_of_wpS Tryz.func63 rfl fun c₀ cs hu => ?_
  apply wpS_seq
  apply wpS_region
  simp [wpOpsS, go_sem, recoverD, hu, Tryz.ntmps63, Exit.thenS]
  refine wpS_of_wp ?_
  simp only [Array.replicate_succ, Array.replicate_zero, List.push_toArray, List.append_toArray, List.nil_append, List.cons_append, List.setIfInBounds_toArray, List.set_cons_zero, List.set_cons_succ, List.set_nil]
  go_upto_region 2 with fail
  refine wp_region_held_drew (S := (fun w' => w'.cell? ⟨p, 0, none⟩ = some (.slice (some ⟨g, off, none⟩) n cap) ∧ w'.cell? ⟨g, off + 3, none⟩ = some (.int .i64 l))) (by kernel_rfl) ?_ (fun hHeld => ?_)
  · exact ⟨h0, h1⟩
  refine wpAnyH_take (i := 0) (v := ?_) rfl (by kernel_rfl) (by kernel_rfl) (by kernel_rfl) (fun _ _ _ h => h) (Or.inl ⟨by rfl, ?_⟩) (by assumption) ?_
  rotate_left
  · (intro wy hSw; obtain ⟨hs1, hs2⟩ := hSw; go_simp; (try with_reducible rfl))
  show wpAnyH _ _ _ _ _ _ _ (Act.put _ (some 8) _) _
  simp only [Act.put, List.setIfInBounds_toArray, List.set_cons_zero, List.set_cons_succ]
  refine wpAnyH_take (i := 1) (v := ?_) rfl (by kernel_rfl) (by kernel_rfl) (by kernel_rfl) (fun _ _ _ h => h) (Or.inl ⟨by rfl, ?_⟩) (by assumption) ?_
  rotate_left
  · (intro wy hSw; obtain ⟨hs1, hs2⟩ := hSw; go_simp; (try with_reducible rfl))
  show wpAnyH _ _ _ _ _ _ _ (Act.put _ (some 9) _) _
  simp only [Act.put, List.setIfInBounds_toArray, List.set_cons_zero, List.set_cons_succ]
  refine wpAnyH_take (i := 2) (v := ?_) rfl (by kernel_rfl) (by kernel_rfl) (by kernel_rfl) (fun _ _ _ h => h) (Or.inl ⟨by rfl, ?_⟩) (by assumption) ?_
  rotate_left
  · (intro wy hSw; obtain ⟨hs1, hs2⟩ := hSw; go_simp; (try with_reducible rfl))
  show wpAnyH _ _ _ _ _ _ _ (Act.put _ (some 10) _) _
  simp only [Act.put, List.setIfInBounds_toArray, List.set_cons_zero, List.set_cons_succ]
  refine wpAnyH_take (i := 3) (v := ?_) rfl (by kernel_rfl) (by kernel_rfl) (by kernel_rfl) (fun _ _ _ h => h) (Or.inl ⟨by rfl, ?_⟩) (by assumption) ?_
  rotate_left
  · (intro wy hSw; obtain ⟨hs1, hs2⟩ := hSw; go_simp; (try with_reducible rfl))
  show wpAnyH _ _ _ _ _ _ _ (Act.put _ (some 11) _) _
  simp only [Act.put, List.setIfInBounds_toArray, List.set_cons_zero, List.set_cons_succ]
  refine wpAnyH_take (i := 4) (v := ?_) rfl (by kernel_rfl) (by kernel_rfl) (by kernel_rfl) (fun _ _ _ h => h) (Or.inl ⟨by rfl, ?_⟩) (by assumption) ?_
  rotate_left
  · (intro wy hSw; obtain ⟨hs1, hs2⟩ := hSw; go_simp; (try with_reducible rfl))
  show wpAnyH _ _ _ _ _ _ _ (Act.put _ (some 12) _) _
  simp only [Act.put, List.setIfInBounds_toArray, List.set_cons_zero, List.set_cons_succ]
  refine wpAnyH_take (i := 5) (v := ?_) rfl (by kernel_rfl) (by kernel_rfl) (by kernel_rfl) (fun _ _ _ h => h) (Or.inl ⟨by rfl, ?_⟩) (by assumption) ?_
  rotate_left
  · (intro wy hSw; obtain ⟨hs1, hs2⟩ := hSw; go_simp; (try with_reducible rfl))
  show wpAnyH _ _ _ _ _ _ _ (Act.put _ (some 13) _) _
  simp only [Act.put, List.setIfInBounds_toArray, List.set_cons_zero, List.set_cons_succ]
  refine wpAnyH_take (i := 6) (v := ?_) rfl (by kernel_rfl) (by kernel_rfl) (by kernel_rfl) (fun _ _ _ h => h) (Or.inl ⟨by rfl, ?_⟩) (by assumption) ?_
  rotate_left
  · (intro wy hSw; obtain ⟨hs1, hs2⟩ := hSw; go_simp; (try with_reducible rfl))
  show wpAnyH _ _ _ _ _ _ _ (Act.put _ (some 14) _) _
  simp only [Act.put, List.setIfInBounds_toArray, List.set_cons_zero, List.set_cons_succ]
  refine wpAnyH_ready (rs := [7]) (by kernel_rfl) (by simp) ?_
  refine AllReadyH.cons rfl (fun K hK => ?_) AllReadyH.nil
  rw [if_pos (by rfl)]
  go_simp
  rw [← Hwa.out]
  refine hK.out _ _ SA.out (fun hHeld => ?_)
  refine wpAnyH_ready (rs := [8]) (by kernel_rfl) (by simp) ?_
  refine AllReadyH.cons rfl (fun K2 hK2 => ?_) AllReadyH.nil
  rw [if_pos (by rfl)]
  go_simp
  rw [← Hwb.out]
  refine hK2.out _ _ SB.out (fun hHeld => ?_)
  refine wpAnyH_ready (rs := [9]) (by kernel_rfl) (by simp) ?_
  refine AllReadyH.cons rfl (fun K3 hK3 => ?_) AllReadyH.nil
  rw [if_pos (by rfl)]
  go_simp
  rw [← Hwc.out]
  refine hK3.out _ _ SC.out (fun hHeld => ?_)
  refine wpAnyH_done (by kernel_rfl) ?_ _
  go_wp2
  cases c₀
  simp_all [bodyPostS, results, Tryz.results63]
theorem OwQ.offs {B : Nat} {S : Nat → Prop} {sv : Value} {L : List Stm} {w w' : World} (h : OwQ B sv L w) (c : Chg S w w') (hS : ∀ x, S x → x < B) : OwQ B sv L w' := by
  have key : ∀ {e : TypeId} {s n : Nat} {v : Value} {xs : List Value}, w.ownsRow B e s v n xs → w'.ownsRow B e s v n xs := fun ho => owns_chg ho (fun k hk e => by have := (World.ownsRow.lt ho k hk).1; have := hS k e; omega) c
  obtain ⟨Y, h1, h2, h3⟩ := h.ex
  exact ⟨Y, h1, key h2, fun y hy => ⟨key (h3 y hy).1, key (h3 y hy).2⟩⟩
structure R3 (w : World) (a : Nat) (x y z : Value) : Prop where
  h1 : w.heap[a]? = some (.cells #[x] 43 (0, 0))
  h2 : w.heap[a + 1]? = some (.cells #[y] 3 (0, 0))
  h3 : w.heap[a + 2]? = some (.cells #[z] 49 (0, 0))
theorem R3.kq {B a : Nat} {w w' : World} {x y z : Value} (h : R3 w a x y z) (c : Chg (KQ B w) w w') : R3 w' a x y z := ⟨KQ.kind c h.h1 (by decide) (by decide), KQ.kind c h.h2 (by decide) (by decide), KQ.kind c h.h3 (by decide) (by decide)⟩
theorem R3.out {a : Nat} {w w' : World} {x y z : Value} (h : R3 w a x y z) (o : Out w w') : R3 w' a x y z := ⟨(o.block _ (Array.getElem?_eq_some_iff.1 h.h1).1).trans h.h1, (o.block _ (Array.getElem?_eq_some_iff.1 h.h2).1).trans h.h2, (o.block _ (Array.getElem?_eq_some_iff.1 h.h3).1).trans h.h3⟩
theorem R3.set {a : Nat} {w : World} {x y z : Value} (h : R3 w a x y z) (x' y' z' : Value) (wz : World) (hz : wz = ((w.setCell ⟨a, 0, none⟩ x').setCell ⟨a + 1, 0, none⟩ y').setCell ⟨a + 2, 0, none⟩ z') : R3 wz a x' y' z' ∧ Chg (fun b => b = a ∨ b = a + 1 ∨ b = a + 2) w wz := by
  subst hz
  have c1 : Chg (fun b => b = a) w (w.setCell ⟨a, 0, none⟩ x') := Chg.setCell (S := fun b => b = a) (Chg.refl _ w) (p := ⟨a, 0, none⟩) rfl _
  generalize hw1 : w.setCell ⟨a, 0, none⟩ x' = w1 at *
  have c2 : Chg (fun b => b = a + 1) w1 (w1.setCell ⟨a + 1, 0, none⟩ y') := Chg.setCell (S := fun b => b = a + 1) (Chg.refl _ w1) (p := ⟨a + 1, 0, none⟩) rfl _
  have k1 : w1.heap[a]? = some (.cells #[x'] 43 (0, 0)) := by rw [← hw1, set_atL h.h1]; rfl
  have k2 : w1.heap[a + 1]? = _ := (c1.block _ (Array.getElem?_eq_some_iff.1 h.h2).1 (by omega)).trans h.h2
  have k3 : w1.heap[a + 2]? = _ := (c1.block _ (Array.getElem?_eq_some_iff.1 h.h3).1 (by omega)).trans h.h3
  generalize hw2 : w1.setCell ⟨a + 1, 0, none⟩ y' = w2 at *
  have c3 : Chg (fun b => b = a + 2) w2 (w2.setCell ⟨a + 2, 0, none⟩ z') := Chg.setCell (S := fun b => b = a + 2) (Chg.refl _ w2) (p := ⟨a + 2, 0, none⟩) rfl _
  have j1 : w2.heap[a]? = _ := (c2.block _ (Array.getElem?_eq_some_iff.1 k1).1 (by omega)).trans k1
  have j2 : w2.heap[a + 1]? = some (.cells #[y'] 3 (0, 0)) := by rw [← hw2, set_atL k2]; rfl
  have j3 : w2.heap[a + 2]? = _ := (c2.block _ (Array.getElem?_eq_some_iff.1 k3).1 (by omega)).trans k3
  refine ⟨⟨(c3.block _ (Array.getElem?_eq_some_iff.1 j1).1 (by omega)).trans j1, (c3.block _ (Array.getElem?_eq_some_iff.1 j2).1 (by omega)).trans j2, by rw [set_atL j3]; rfl⟩, ?_⟩
  exact ((c1.mono (T := fun b => b = a ∨ b = a + 1 ∨ b = a + 2) (fun x hx _ => .inl hx)).trans c2 (fun x hx _ => .inr (.inl hx))).trans c3 (fun x hx _ => .inr (.inr hx))
theorem catch_any6 (B : Nat) (p g mb a : Nat) (sv : Value) (ts : List Lx.Tk) (c : Int) (w : World) (hP : PS B w p g mb sv ts) (hl : Lw ts) (x y z : Value) (hR : R3 w a x y z) (hg : g < a) (hp : a + 2 < p) :
    CallsD Tryz.prog 63 #[.pointer (some ⟨p, 0, none⟩), .pointer (some ⟨a, 0, none⟩), .pointer (some ⟨a + 1, 0, none⟩), .pointer (some ⟨a + 2, 0, none⟩)] (.panicking [{ v := .iface 49 (.int .i64 c), recovered := false }]) w fun e u' w' => e = .returned (.tuple #[]) ∧ u' = .panicking [{ v := .iface 49 (.int .i64 c), recovered := true }] ∧ R3 w' a (.slice none 0 0) (.int .i64 (lineQ ts)) (.int .i64 c) ∧ Chg (fun b => b = a ∨ b = a + 1 ∨ b = a + 2) w w' := by
  obtain ⟨t, u, r, rfl⟩ := hl.two
  obtain ⟨off, cap, hRB, hT, hc⟩ := hP.st
  obtain ⟨-, -, -, q3⟩ := hT 0 t rfl
  simp only [Nat.zero_mul, Nat.add_zero] at q3
  refine (catch_pan6 p g off _ cap a (a + 1) (a + 2) c t.l w (by simp) (show w.cell? ⟨p, 0, none⟩ = some (.slice (some ⟨g, off, none⟩) (t :: u :: r).length cap) by rw [cell_atL hRB]; rfl) q3 x y z hR.h1 hR.h2 hR.h3 ⟨by omega, by omega, by omega⟩ ⟨by omega, by omega, by omega⟩ ⟨by omega, by omega, by omega⟩).mono ?_
  rintro e u' w' ⟨he, hu, hw⟩
  have hd : R3 w.drew a x y z := ⟨hR.h1, hR.h2, hR.h3⟩
  have := hd.set (.slice none 0 0) (.int .i64 t.l) (.int .i64 c) w' hw
  exact ⟨he, hu, this.1, ⟨this.2.os, this.2.tape, this.2.output, this.2.size, this.2.block⟩⟩
end Go.Proofs.YtkihaohdcgjioaaGreatDoor
