import Derived.Test.YthdgmhohofakgaaGreatDoorImm
import Derived.Test.YthdgmhohofakgaaGreatDoorImn
namespace Go.Proofs.YthdgmhohofakgaaGreatDoor
open Go.RowKit
set_option linter.unusedVariables false
set_option linter.unusedSimpArgs false
theorem drewN_twice (w : World) (a b : Nat) : (w.drewN a).drewN b = w.drewN (a + b) := by
  simp only [World.drewN, Nat.add_assoc]
set_option maxHeartbeats 4000000 in
theorem sameI17 (w : World) (a1 a2 : Option Addr) (n c1 c2 : Nat) (l : List Ins) (hn : l.length = n) (h1 : InsA w a1 l) (h2 : InsA w a2 l) (hm : n ≤ 140737488355328) : Calls Tryz.prog 25 #[.slice a1 n c1, .slice a2 n c2] w fun e w' => e = .returned (.bool true) ∧ ∃ m, w' = w.drewN m := by
  have H1 := hidOf h1
  have H2 := hidOf h2
  have Hn := hidOf hn
  clear h1 h2 hn
  go_enter Tryz.func25, Tryz.ntmps25
  go_wp2
  go_loopw [5] (fun i wr => ∃ k : Nat, k ≤ n ∧ i = .int .i64 k ∧ ∃ m, wr = w.drewN m) (fun i _ => n - (intOf i).toNat)
  case atStart => exact ⟨0, by omega, rfl, 0, rfl⟩
  case round =>
    obtain ⟨k, hk, rfl, m, rfl⟩ := hrel
    by_cases hkl : k < n
    · have hlt : (k : Int) < n := by omega
      obtain ⟨x, hx⟩ : ∃ x, l[k]? = some x := ⟨_, List.getElem?_eq_getElem (by have := Hn.out; omega)⟩
      rcases H1.out with hz | ⟨b1, o1, rfl, hc1⟩
      · simp [hz] at hx
      rcases H2.out with hz | ⟨b2, o2, rfl, hc2⟩
      · simp [hz] at hx
      obtain ⟨p0, p1, p2, p3, p4⟩ := hc1 k x hx
      obtain ⟨q0, q1, q2, q3, q4⟩ := hc2 k x hx
      have p0' : (w.drewN m).cell? ⟨b1, o1 + k * 5, none⟩ = some (.int .i64 x.o) := p0
      have p1' : (w.drewN m).cell? ⟨b1, o1 + k * 5 + 1, none⟩ = some (.int .i64 x.d) := p1
      have p2' : (w.drewN m).cell? ⟨b1, o1 + k * 5 + 2, none⟩ = some (.int .i64 x.s) := p2
      have p3' : (w.drewN m).cell? ⟨b1, o1 + k * 5 + 3, none⟩ = some (.int .i64 x.f) := p3
      have p4' : (w.drewN m).cell? ⟨b1, o1 + k * 5 + 4, none⟩ = some (.int .i64 x.i) := p4
      have q0' : (w.drewN m).cell? ⟨b2, o2 + k * 5, none⟩ = some (.int .i64 x.o) := q0
      have q1' : (w.drewN m).cell? ⟨b2, o2 + k * 5 + 1, none⟩ = some (.int .i64 x.d) := q1
      have q2' : (w.drewN m).cell? ⟨b2, o2 + k * 5 + 2, none⟩ = some (.int .i64 x.s) := q2
      have q3' : (w.drewN m).cell? ⟨b2, o2 + k * 5 + 3, none⟩ = some (.int .i64 x.f) := q3
      have q4' : (w.drewN m).cell? ⟨b2, o2 + k * 5 + 4, none⟩ = some (.int .i64 x.i) := q4
      clear hc1 hc2 p0 p1 p2 p3 p4 q0 q1 q2 q3 q4 hx
      obtain ⟨x0, x1, x2, x3, x4⟩ := x
      simp only at p0' p1' p2' p3' p4' q0' q1' q2' q3' q4'
      generalize hwm : w.drewN m = wm at *
      go_wp2
      go_quiet (fail)
      go_wp2
      go_roundw
      case rel => exact ⟨k + 1, by omega, by simp, by subst hwm; first | exact ⟨_, rfl⟩ | exact ⟨_, (drewN_twice _ _ _)⟩⟩
      case measure => simp [intOf]; omega
    · have hlt : ¬ (k : Int) < n := by omega
      obtain rfl : k = n := by omega
      go_wp2
      go_ret
      exact ⟨rfl, _, rfl⟩
set_option maxHeartbeats 4000000 in
theorem sameF17 (w : World) (a1 a2 : Option Addr) (n c1 c2 : Nat) (l : List Fn) (hn : l.length = n) (h1 : FnA w a1 l) (h2 : FnA w a2 l) (hm : n ≤ 140737488355328) : Calls Tryz.prog 26 #[.slice a1 n c1, .slice a2 n c2] w fun e w' => e = .returned (.bool true) ∧ ∃ m, w' = w.drewN m := by
  have H1 := hidOf h1
  have H2 := hidOf h2
  have Hn := hidOf hn
  clear h1 h2 hn
  go_enter Tryz.func26, Tryz.ntmps26
  go_wp2
  go_loopw [5] (fun i wr => ∃ k : Nat, k ≤ n ∧ i = .int .i64 k ∧ ∃ m, wr = w.drewN m) (fun i _ => n - (intOf i).toNat)
  case atStart => exact ⟨0, by omega, rfl, 0, rfl⟩
  case round =>
    obtain ⟨k, hk, rfl, m, rfl⟩ := hrel
    by_cases hkl : k < n
    · have hlt : (k : Int) < n := by omega
      obtain ⟨x, hx⟩ : ∃ x, l[k]? = some x := ⟨_, List.getElem?_eq_getElem (by have := Hn.out; omega)⟩
      rcases H1.out with hz | ⟨b1, o1, rfl, hc1⟩
      · simp [hz] at hx
      rcases H2.out with hz | ⟨b2, o2, rfl, hc2⟩
      · simp [hz] at hx
      obtain ⟨p0, p1, p2, p3⟩ := hc1 k x hx
      obtain ⟨q0, q1, q2, q3⟩ := hc2 k x hx
      have p0' : (w.drewN m).cell? ⟨b1, o1 + k * 4, none⟩ = some (.string ⟨x.nm.toArray⟩) := p0
      have p1' : (w.drewN m).cell? ⟨b1, o1 + k * 4 + 1, none⟩ = some (.int .i64 x.ob) := p1
      have p2' : (w.drewN m).cell? ⟨b1, o1 + k * 4 + 2, none⟩ = some (.int .i64 x.fi) := p2
      have p3' : (w.drewN m).cell? ⟨b1, o1 + k * 4 + 3, none⟩ = some (.int .i64 x.ct) := p3
      have q0' : (w.drewN m).cell? ⟨b2, o2 + k * 4, none⟩ = some (.string ⟨x.nm.toArray⟩) := q0
      have q1' : (w.drewN m).cell? ⟨b2, o2 + k * 4 + 1, none⟩ = some (.int .i64 x.ob) := q1
      have q2' : (w.drewN m).cell? ⟨b2, o2 + k * 4 + 2, none⟩ = some (.int .i64 x.fi) := q2
      have q3' : (w.drewN m).cell? ⟨b2, o2 + k * 4 + 3, none⟩ = some (.int .i64 x.ct) := q3
      clear hc1 hc2 p0 p1 p2 p3 q0 q1 q2 q3 hx
      obtain ⟨x0, x1, x2, x3⟩ := x
      simp only at p0' p1' p2' p3' q0' q1' q2' q3'
      generalize hwm : w.drewN m = wm at *
      go_wp2
      go_quiet (fail)
      go_wp2
      go_roundw
      case rel => exact ⟨k + 1, by omega, by simp, by subst hwm; first | exact ⟨_, rfl⟩ | exact ⟨_, (drewN_twice _ _ _)⟩⟩
      case measure => simp [intOf]; omega
    · have hlt : ¬ (k : Int) < n := by omega
      obtain rfl : k = n := by omega
      go_wp2
      go_ret
      exact ⟨rfl, _, rfl⟩
set_option maxHeartbeats 4000000 in
theorem sameD17 (w : World) (a1 a2 : Option Addr) (n c1 c2 : Nat) (l : List Td) (hn : l.length = n) (h1 : TdA w a1 l) (h2 : TdA w a2 l) (hm : n ≤ 140737488355328) : Calls Tryz.prog 27 #[.slice a1 n c1, .slice a2 n c2] w fun e w' => e = .returned (.bool true) ∧ ∃ m, w' = w.drewN m := by
  have H1 := hidOf h1
  have H2 := hidOf h2
  have Hn := hidOf hn
  clear h1 h2 hn
  go_enter Tryz.func27, Tryz.ntmps27
  go_wp2
  go_loopw [5] (fun i wr => ∃ k : Nat, k ≤ n ∧ i = .int .i64 k ∧ ∃ m, wr = w.drewN m) (fun i _ => n - (intOf i).toNat)
  case atStart => exact ⟨0, by omega, rfl, 0, rfl⟩
  case round =>
    obtain ⟨k, hk, rfl, m, rfl⟩ := hrel
    by_cases hkl : k < n
    · have hlt : (k : Int) < n := by omega
      obtain ⟨x, hx⟩ : ∃ x, l[k]? = some x := ⟨_, List.getElem?_eq_getElem (by have := Hn.out; omega)⟩
      rcases H1.out with hz | ⟨b1, o1, rfl, hc1⟩
      · simp [hz] at hx
      rcases H2.out with hz | ⟨b2, o2, rfl, hc2⟩
      · simp [hz] at hx
      obtain ⟨p0, p1, p2, p3, p4⟩ := hc1 k x hx
      obtain ⟨q0, q1, q2, q3, q4⟩ := hc2 k x hx
      have p0' : (w.drewN m).cell? ⟨b1, o1 + k * 5, none⟩ = some (.string ⟨x.nm.toArray⟩) := p0
      have p1' : (w.drewN m).cell? ⟨b1, o1 + k * 5 + 1, none⟩ = some (.int .i64 x.kd) := p1
      have p2' : (w.drewN m).cell? ⟨b1, o1 + k * 5 + 2, none⟩ = some (.int .i64 x.ky) := p2
      have p3' : (w.drewN m).cell? ⟨b1, o1 + k * 5 + 3, none⟩ = some (.int .i64 x.vl) := p3
      have p4' : (w.drewN m).cell? ⟨b1, o1 + k * 5 + 4, none⟩ = some (.int .i64 x.en) := p4
      have q0' : (w.drewN m).cell? ⟨b2, o2 + k * 5, none⟩ = some (.string ⟨x.nm.toArray⟩) := q0
      have q1' : (w.drewN m).cell? ⟨b2, o2 + k * 5 + 1, none⟩ = some (.int .i64 x.kd) := q1
      have q2' : (w.drewN m).cell? ⟨b2, o2 + k * 5 + 2, none⟩ = some (.int .i64 x.ky) := q2
      have q3' : (w.drewN m).cell? ⟨b2, o2 + k * 5 + 3, none⟩ = some (.int .i64 x.vl) := q3
      have q4' : (w.drewN m).cell? ⟨b2, o2 + k * 5 + 4, none⟩ = some (.int .i64 x.en) := q4
      clear hc1 hc2 p0 p1 p2 p3 p4 q0 q1 q2 q3 q4 hx
      obtain ⟨x0, x1, x2, x3, x4⟩ := x
      simp only at p0' p1' p2' p3' p4' q0' q1' q2' q3' q4'
      generalize hwm : w.drewN m = wm at *
      go_wp2
      go_quiet (fail)
      go_wp2
      go_roundw
      case rel => exact ⟨k + 1, by omega, by simp, by subst hwm; first | exact ⟨_, rfl⟩ | exact ⟨_, (drewN_twice _ _ _)⟩⟩
      case measure => simp [intOf]; omega
    · have hlt : ¬ (k : Int) < n := by omega
      obtain rfl : k = n := by omega
      go_wp2
      go_ret
      exact ⟨rfl, _, rfl⟩
structure ImS (w : World) (ta fa da : Option Addr) (m : Img) : Prop where
  t : InsA w ta m.T
  f : FnA w fa m.F
  d : TdA w da m.D
theorem ImA.s {w : World} {ta fa da : Option Addr} {m : Img} (h : ImA w ta fa da m) : ImS w ta fa da m := ⟨h.t, h.f, h.d⟩
theorem ImS.out {w w' : World} {ta fa da : Option Addr} {m : Img} (h : ImS w ta fa da m) (o : Out w w') : ImS w' ta fa da m := ⟨h.t.out o, h.f.out o, h.d.out o⟩
/-- two images in boxes -/
def Bx2 (w : World) (q : Nat) (v0 v1 v2 v3 u0 u1 u2 u3 : Value) (wx : World) : Prop := Out w wx ∧ wx.cell? ⟨q, 0, none⟩ = some v0 ∧ wx.cell? ⟨q, 1, none⟩ = some v1 ∧ wx.cell? ⟨q, 2, none⟩ = some v2 ∧ wx.cell? ⟨q, 3, none⟩ = some v3 ∧ wx.cell? ⟨q + 1, 0, none⟩ = some u0 ∧ wx.cell? ⟨q + 1, 1, none⟩ = some u1 ∧ wx.cell? ⟨q + 1, 2, none⟩ = some u2 ∧ wx.cell? ⟨q + 1, 3, none⟩ = some u3
theorem Bx2.drewN {w : World} {q : Nat} {v0 v1 v2 v3 u0 u1 u2 u3 : Value} {wx : World} (h : Bx2 w q v0 v1 v2 v3 u0 u1 u2 u3 wx) (k : Nat) : Bx2 w q v0 v1 v2 v3 u0 u1 u2 u3 (wx.drewN k) := ⟨h.1.drewN k, h.2⟩
theorem Bx2.new (w : World) (v0 v1 v2 v3 u0 u1 u2 u3 : Value) (t t' : TypeId) : Bx2 w w.heap.size v0 v1 v2 v3 u0 u1 u2 u3 ((w.alloc (.cells #[v0, v1, v2, v3] t)).alloc (.cells #[u0, u1, u2, u3] t')) := by
  have h1 : ((w.alloc (.cells #[v0, v1, v2, v3] t)).alloc (.cells #[u0, u1, u2, u3] t')).heap[w.heap.size]? = some (.cells #[v0, v1, v2, v3] t (0, 0)) := by
    rw [Below.heap_alloc _ _ _ (by rw [size_alloc]; omega)]; exact heap_alloc_new w _
  have h2 : ((w.alloc (.cells #[v0, v1, v2, v3] t)).alloc (.cells #[u0, u1, u2, u3] t')).heap[w.heap.size + 1]? = some (.cells #[u0, u1, u2, u3] t' (0, 0)) := by
    have := heap_alloc_new (w.alloc (.cells #[v0, v1, v2, v3] t)) (.cells #[u0, u1, u2, u3] t')
    rw [size_alloc] at this; exact this
  refine ⟨Out.alloc (Out.alloc (Out.refl _) _) _, ?_, ?_, ?_, ?_, ?_, ?_, ?_, ?_⟩
  · rw [cell_atL h1]; rfl
  · rw [cell_atL h1]; rfl
  · rw [cell_atL h1]; rfl
  · rw [cell_atL h1]; rfl
  · rw [cell_atL h2]; rfl
  · rw [cell_atL h2]; rfl
  · rw [cell_atL h2]; rfl
  · rw [cell_atL h2]; rfl
set_option maxHeartbeats 4000000 in
theorem sameImage_any (w : World) (ta fa da ta' fa' da' : Option Addr) (tc fc dc tc' fc' dc' : Nat) (m : Img) (h : ImS w ta fa da m) (h' : ImS w ta' fa' da' m) (hT : m.T.length ≤ 140737488355328) (hF : m.F.length ≤ 140737488355328) (hD : m.D.length ≤ 140737488355328) : Calls Tryz.prog 11 #[.agg #[.slice ta m.T.length tc, .slice fa m.F.length fc, .slice da m.D.length dc, .int .i64 m.en], .agg #[.slice ta' m.T.length tc', .slice fa' m.F.length fc', .slice da' m.D.length dc', .int .i64 m.en]] w fun e w' => e = .returned (.bool true) ∧ Out w w' := by
  obtain ⟨q, hq⟩ : ∃ q, Hid (q = w.heap.size) := ⟨_, rfl⟩
  obtain ⟨K, hK⟩ : ∃ K : World → Prop, Hid (K = Bx2 w q (.slice ta m.T.length tc) (.slice fa m.F.length fc) (.slice da m.D.length dc) (.int .i64 m.en) (.slice ta' m.T.length tc') (.slice fa' m.F.length fc') (.slice da' m.D.length dc') (.int .i64 m.en)) := ⟨_, rfl⟩
  have C1 : Hid (∀ wx, K wx → Calls Tryz.prog 25 #[.slice ta m.T.length tc, .slice ta' m.T.length tc'] wx fun e w' => e = .returned (.bool true) ∧ K w') := hidOf fun wx o => by
    rw [hK.out] at o ⊢
    exact (sameI17 wx _ _ _ _ _ m.T rfl (h.t.out o.1) (h'.t.out o.1) hT).mono (fun e w' ⟨he, k, hk⟩ => ⟨he, by rw [hk]; exact o.drewN k⟩)
  have C2 : Hid (∀ wx, K wx → Calls Tryz.prog 26 #[.slice fa m.F.length fc, .slice fa' m.F.length fc'] wx fun e w' => e = .returned (.bool true) ∧ K w') := hidOf fun wx o => by
    rw [hK.out] at o ⊢
    exact (sameF17 wx _ _ _ _ _ m.F rfl (h.f.out o.1) (h'.f.out o.1) hF).mono (fun e w' ⟨he, k, hk⟩ => ⟨he, by rw [hk]; exact o.drewN k⟩)
  have C3 : Hid (∀ wx, K wx → Calls Tryz.prog 27 #[.slice da m.D.length dc, .slice da' m.D.length dc'] wx fun e w' => e = .returned (.bool true) ∧ K w') := hidOf fun wx o => by
    rw [hK.out] at o ⊢
    exact (sameD17 wx _ _ _ _ _ m.D rfl (h.d.out o.1) (h'.d.out o.1) hD).mono (fun e w' ⟨he, k, hk⟩ => ⟨he, by rw [hk]; exact o.drewN k⟩)
  clear h h' hT hF hD
  have K0 := Bx2.new w (.slice ta m.T.length tc) (.slice fa m.F.length fc) (.slice da m.D.length dc) (.int .i64 m.en) (.slice ta' m.T.length tc') (.slice fa' m.F.length fc') (.slice da' m.D.length dc') (.int .i64 m.en) 34 34
  rw [← hq.out, ← hK.out] at K0
  go_enter Tryz.func11, Tryz.ntmps11
  go_upto_region 1 with fail
  generalize hw0 : (w.alloc _).alloc _ = w0 at K0 ⊢
  have KH := hidOf K0
  rw [hK.out] at K0
  obtain ⟨o0, p0, p1, p2, p3, q0, q1, q2, q3⟩ := K0
  rw [hq.out] at p0 p1 p2 p3 q0 q1 q2 q3
  go_wp2_with (first
    | (go_at_call 25; refine (C1.out _ KH.out).mono ?_; rintro e w2 ⟨rfl, h2⟩; have H2 := hidOf h2; rw [hK.out, hq.out] at h2; obtain ⟨o2, r0, r1, r2, r3, s0, s1, s2, s3⟩ := h2)
    | (go_at_call 26; refine (C2.out _ H2.out).mono ?_; rintro e w3 ⟨rfl, h3⟩; have H3 := hidOf h3; rw [hK.out, hq.out] at h3; obtain ⟨o3, t0, t1, t2, t3, u0, u1, u2, u3⟩ := h3)
    | (go_at_call 27; refine (C3.out _ H3.out).mono ?_; rintro e w4 ⟨rfl, h4⟩; have H4 := hidOf h4; rw [hK.out, hq.out] at h4; obtain ⟨o4, v0, v1, v2, v3, x0, x1, x2, x3⟩ := h4))
  go_ret
  have := H4.out
  rw [hK.out] at this
  exact ⟨by simp, this.1⟩
end Go.Proofs.YthdgmhohofakgaaGreatDoor
