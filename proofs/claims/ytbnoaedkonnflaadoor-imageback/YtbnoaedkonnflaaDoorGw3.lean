import Derived.Test.YtbnoaedkonnflaaDoorImm
import Derived.Test.YtbnoaedkonnflaaDoorImn
import Derived.Test.YtbnoaedkonnflaaDoorGw0
import Derived.Test.YtbnoaedkonnflaaDoorIya
import Derived.Test.YtbnoaedkonnflaaDoorGw2
namespace Go.Proofs.YtbnoaedkonnflaaDoor
open Go.RowKit
set_option linter.unusedVariables false
set_option linter.unusedSimpArgs false
theorem drewN_twice (w : World) (a b : Nat) : (w.drewN a).drewN b = w.drewN (a + b) := by
  simp only [World.drewN, Nat.add_assoc]
set_option maxHeartbeats 4000000 in
theorem sameI17 (w : World) (a1 a2 : Option Addr) (n c1 c2 : Nat) (l : List Ins) (hn : l.length = n) (h1 : InsA w a1 l) (h2 : InsA w a2 l) (hm : n ≤ 140737488355328) : Calls Tryd.prog 17 #[.slice a1 n c1, .slice a2 n c2] w fun e w' => e = .returned (.bool true) ∧ ∃ m, w' = w.drewN m := by
  have H1 := hidOf h1
  have H2 := hidOf h2
  have Hn := hidOf hn
  clear h1 h2 hn
  go_enter Tryd.func17, Tryd.ntmps17
  go_wp2
  go_loopw [5] (fun i wr => ∃ k : Nat, k ≤ n ∧ i = .int .i64 k ∧ ∃ m, wr = w.drewN m) (fun i _ => n - (intOf i).toNat)
  case atStart => exact ⟨0, by omega, rfl, 0, rfl⟩
  case round =>
    obtain ⟨k, hk, rfl, m, rfl⟩ := hrel
    by_cases hkl : k < n
    · have hlt : (k : Int) < n := by omega
      obtain ⟨x, hx⟩ : ∃ x, l[k]? = some x := ⟨_, List.getElem?_eq_getElem (by have := Hn.out; omega)⟩
      rcases H1.out with hz | ⟨b1, o1, rfl, hc1⟩
      · simp [hz] at hx
      rcases H2.out with hz | ⟨b2, o2, rfl, hc2⟩
      · simp [hz] at hx
      obtain ⟨p0, p1, p2, p3, p4⟩ := hc1 k x hx
      obtain ⟨q0, q1, q2, q3, q4⟩ := hc2 k x hx
      have p0' : (w.drewN m).cell? ⟨b1, o1 + k * 5, none⟩ = some (.int .i64 x.o) := p0
      have p1' : (w.drewN m).cell? ⟨b1, o1 + k * 5 + 1, none⟩ = some (.int .i64 x.d) := p1
      have p2' : (w.drewN m).cell? ⟨b1, o1 + k * 5 + 2, none⟩ = some (.int .i64 x.s) := p2
      have p3' : (w.drewN m).cell? ⟨b1, o1 + k * 5 + 3, none⟩ = some (.int .i64 x.f) := p3
      have p4' : (w.drewN m).cell? ⟨b1, o1 + k * 5 + 4, none⟩ = some (.int .i64 x.i) := p4
      have q0' : (w.drewN m).cell? ⟨b2, o2 + k * 5, none⟩ = some (.int .i64 x.o) := q0
      have q1' : (w.drewN m).cell? ⟨b2, o2 + k * 5 + 1, none⟩ = some (.int .i64 x.d) := q1
      have q2' : (w.drewN m).cell? ⟨b2, o2 + k * 5 + 2, none⟩ = some (.int .i64 x.s) := q2
      have q3' : (w.drewN m).cell? ⟨b2, o2 + k * 5 + 3, none⟩ = some (.int .i64 x.f) := q3
      have q4' : (w.drewN m).cell? ⟨b2, o2 + k * 5 + 4, none⟩ = some (.int .i64 x.i) := q4
      clear hc1 hc2 p0 p1 p2 p3 p4 q0 q1 q2 q3 q4 hx
      obtain ⟨x0, x1, x2, x3, x4⟩ := x
      simp only at p0' p1' p2' p3' p4' q0' q1' q2' q3' q4'
      generalize hwm : w.drewN m = wm at *
      go_wp2
      go_quiet (fail)
      go_wp2
      go_roundw
      case rel => exact ⟨k + 1, by omega, by simp, by subst hwm; first | exact ⟨_, rfl⟩ | exact ⟨_, (drewN_twice _ _ _)⟩⟩
      case measure => simp [intOf]; omega
    · have hlt : ¬ (k : Int) < n := by omega
      obtain rfl : k = n := by omega
      go_wp2
      go_ret
      exact ⟨rfl, _, rfl⟩
set_option maxHeartbeats 4000000 in
theorem sameF17 (w : World) (a1 a2 : Option Addr) (n c1 c2 : Nat) (l : List Fn) (hn : l.length = n) (h1 : FnA w a1 l) (h2 : FnA w a2 l) (hm : n ≤ 140737488355328) : Calls Tryd.prog 18 #[.slice a1 n c1, .slice a2 n c2] w fun e w' => e = .returned (.bool true) ∧ ∃ m, w' = w.drewN m := by
  have H1 := hidOf h1
  have H2 := hidOf h2
  have Hn := hidOf hn
  clear h1 h2 hn
  go_enter Tryd.func18, Tryd.ntmps18
  go_wp2
  go_loopw [5] (fun i wr => ∃ k : Nat, k ≤ n ∧ i = .int .i64 k ∧ ∃ m, wr = w.drewN m) (fun i _ => n - (intOf i).toNat)
  case atStart => exact ⟨0, by omega, rfl, 0, rfl⟩
  case round =>
    obtain ⟨k, hk, rfl, m, rfl⟩ := hrel
    by_cases hkl : k < n
    · have hlt : (k : Int) < n := by omega
      obtain ⟨x, hx⟩ : ∃ x, l[k]? = some x := ⟨_, List.getElem?_eq_getElem (by have := Hn.out; omega)⟩
      rcases H1.out with hz | ⟨b1, o1, rfl, hc1⟩
      · simp [hz] at hx
      rcases H2.out with hz | ⟨b2, o2, rfl, hc2⟩
      · simp [hz] at hx
      obtain ⟨p0, p1, p2, p3⟩ := hc1 k x hx
      obtain ⟨q0, q1, q2, q3⟩ := hc2 k x hx
      have p0' : (w.drewN m).cell? ⟨b1, o1 + k * 4, none⟩ = some (.string ⟨x.nm.toArray⟩) := p0
      have p1' : (w.drewN m).cell? ⟨b1, o1 + k * 4 + 1, none⟩ = some (.int .i64 x.ob) := p1
      have p2' : (w.drewN m).cell? ⟨b1, o1 + k * 4 + 2, none⟩ = some (.int .i64 x.fi) := p2
      have p3' : (w.drewN m).cell? ⟨b1, o1 + k * 4 + 3, none⟩ = some (.int .i64 x.ct) := p3
      have q0' : (w.drewN m).cell? ⟨b2, o2 + k * 4, none⟩ = some (.string ⟨x.nm.toArray⟩) := q0
      have q1' : (w.drewN m).cell? ⟨b2, o2 + k * 4 + 1, none⟩ = some (.int .i64 x.ob) := q1
      have q2' : (w.drewN m).cell? ⟨b2, o2 + k * 4 + 2, none⟩ = some (.int .i64 x.fi) := q2
      have q3' : (w.drewN m).cell? ⟨b2, o2 + k * 4 + 3, none⟩ = some (.int .i64 x.ct) := q3
      clear hc1 hc2 p0 p1 p2 p3 q0 q1 q2 q3 hx
      obtain ⟨x0, x1, x2, x3⟩ := x
      simp only at p0' p1' p2' p3' q0' q1' q2' q3'
      generalize hwm : w.drewN m = wm at *
      go_wp2
      go_quiet (fail)
      go_wp2
      go_roundw
      case rel => exact ⟨k + 1, by omega, by simp, by subst hwm; first | exact ⟨_, rfl⟩ | exact ⟨_, (drewN_twice _ _ _)⟩⟩
      case measure => simp [intOf]; omega
    · have hlt : ¬ (k : Int) < n := by omega
      obtain rfl : k = n := by omega
      go_wp2
      go_ret
      exact ⟨rfl, _, rfl⟩
set_option maxHeartbeats 4000000 in
theorem sameD17 (w : World) (a1 a2 : Option Addr) (n c1 c2 : Nat) (l : List Td) (hn : l.length = n) (h1 : TdA w a1 l) (h2 : TdA w a2 l) (hm : n ≤ 140737488355328) : Calls Tryd.prog 19 #[.slice a1 n c1, .slice a2 n c2] w fun e w' => e = .returned (.bool true) ∧ ∃ m, w' = w.drewN m := by
  have H1 := hidOf h1
  have H2 := hidOf h2
  have Hn := hidOf hn
  clear h1 h2 hn
  go_enter Tryd.func19, Tryd.ntmps19
  go_wp2
  go_loopw [5] (fun i wr => ∃ k : Nat, k ≤ n ∧ i = .int .i64 k ∧ ∃ m, wr = w.drewN m) (fun i _ => n - (intOf i).toNat)
  case atStart => exact ⟨0, by omega, rfl, 0, rfl⟩
  case round =>
    obtain ⟨k, hk, rfl, m, rfl⟩ := hrel
    by_cases hkl : k < n
    · have hlt : (k : Int) < n := by omega
      obtain ⟨x, hx⟩ : ∃ x, l[k]? = some x := ⟨_, List.getElem?_eq_getElem (by have := Hn.out; omega)⟩
      rcases H1.out with hz | ⟨b1, o1, rfl, hc1⟩
      · simp [hz] at hx
      rcases H2.out with hz | ⟨b2, o2, rfl, hc2⟩
      · simp [hz] at hx
      obtain ⟨p0, p1, p2, p3, p4⟩ := hc1 k x hx
      obtain ⟨q0, q1, q2, q3, q4⟩ := hc2 k x hx
      have p0' : (w.drewN m).cell? ⟨b1, o1 + k * 5, none⟩ = some (.string ⟨x.nm.toArray⟩) := p0
      have p1' : (w.drewN m).cell? ⟨b1, o1 + k * 5 + 1, none⟩ = some (.int .i64 x.kd) := p1
      have p2' : (w.drewN m).cell? ⟨b1, o1 + k * 5 + 2, none⟩ = some (.int .i64 x.ky) := p2
      have p3' : (w.drewN m).cell? ⟨b1, o1 + k * 5 + 3, none⟩ = some (.int .i64 x.vl) := p3
      have p4' : (w.drewN m).cell? ⟨b1, o1 + k * 5 + 4, none⟩ = some (.int .i64 x.en) := p4
      have q0' : (w.drewN m).cell? ⟨b2, o2 + k * 5, none⟩ = some (.string ⟨x.nm.toArray⟩) := q0
      have q1' : (w.drewN m).cell? ⟨b2, o2 + k * 5 + 1, none⟩ = some (.int .i64 x.kd) := q1
      have q2' : (w.drewN m).cell? ⟨b2, o2 + k * 5 + 2, none⟩ = some (.int .i64 x.ky) := q2
      have q3' : (w.drewN m).cell? ⟨b2, o2 + k * 5 + 3, none⟩ = some (.int .i64 x.vl) := q3
      have q4' : (w.drewN m).cell? ⟨b2, o2 + k * 5 + 4, none⟩ = some (.int .i64 x.en) := q4
      clear hc1 hc2 p0 p1 p2 p3 p4 q0 q1 q2 q3 q4 hx
      obtain ⟨x0, x1, x2, x3, x4⟩ := x
      simp only at p0' p1' p2' p3' p4' q0' q1' q2' q3' q4'
      generalize hwm : w.drewN m = wm at *
      go_wp2
      go_quiet (fail)
      go_wp2
      go_roundw
      case rel => exact ⟨k + 1, by omega, by simp, by subst hwm; first | exact ⟨_, rfl⟩ | exact ⟨_, (drewN_twice _ _ _)⟩⟩
      case measure => simp [intOf]; omega
    · have hlt : ¬ (k : Int) < n := by omega
      obtain rfl : k = n := by omega
      go_wp2
      go_ret
      exact ⟨rfl, _, rfl⟩
structure ImS (w : World) (ta fa da : Option Addr) (m : Img) : Prop where
  t : InsA w ta m.T
  f : FnA w fa m.F
  d : TdA w da m.D
theorem ImA.s {w : World} {ta fa da : Option Addr} {m : Img} (h : ImA w ta fa da m) : ImS w ta fa da m := ⟨h.t, h.f, h.d⟩
theorem ImS.out {w w' : World} {ta fa da : Option Addr} {m : Img} (h : ImS w ta fa da m) (o : Out w w') : ImS w' ta fa da m := ⟨h.t.out o, h.f.out o, h.d.out o⟩
/-- two images in boxes -/
def Bx2 (w : World) (q : Nat) (v0 v1 v2 v3 u0 u1 u2 u3 : Value) (wx : World) : Prop := Out w wx ∧ wx.cell? ⟨q, 0, none⟩ = some v0 ∧ wx.cell? ⟨q, 1, none⟩ = some v1 ∧ wx.cell? ⟨q, 2, none⟩ = some v2 ∧ wx.cell? ⟨q, 3, none⟩ = some v3 ∧ wx.cell? ⟨q + 1, 0, none⟩ = some u0 ∧ wx.cell? ⟨q + 1, 1, none⟩ = some u1 ∧ wx.cell? ⟨q + 1, 2, none⟩ = some u2 ∧ wx.cell? ⟨q + 1, 3, none⟩ = some u3
theorem Bx2.drewN {w : World} {q : Nat} {v0 v1 v2 v3 u0 u1 u2 u3 : Value} {wx : World} (h : Bx2 w q v0 v1 v2 v3 u0 u1 u2 u3 wx) (k : Nat) : Bx2 w q v0 v1 v2 v3 u0 u1 u2 u3 (wx.drewN k) := ⟨h.1.drewN k, h.2⟩
theorem Bx2.new (w : World) (v0 v1 v2 v3 u0 u1 u2 u3 : Value) (t t' : TypeId) : Bx2 w w.heap.size v0 v1 v2 v3 u0 u1 u2 u3 ((w.alloc (.cells #[v0, v1, v2, v3] t)).alloc (.cells #[u0, u1, u2, u3] t')) := by
  have h1 : ((w.alloc (.cells #[v0, v1, v2, v3] t)).alloc (.cells #[u0, u1, u2, u3] t')).heap[w.heap.size]? = some (.cells #[v0, v1, v2, v3] t (0, 0)) := by
    rw [Below.heap_alloc _ _ _ (by rw [size_alloc]; omega)]; exact heap_alloc_new w _
  have h2 : ((w.alloc (.cells #[v0, v1, v2, v3] t)).alloc (.cells #[u0, u1, u2, u3] t')).heap[w.heap.size + 1]? = some (.cells #[u0, u1, u2, u3] t' (0, 0)) := by
    have := heap_alloc_new (w.alloc (.cells #[v0, v1, v2, v3] t)) (.cells #[u0, u1, u2, u3] t')
    rw [size_alloc] at this; exact this
  refine ⟨Out.alloc (Out.alloc (Out.refl _) _) _, ?_, ?_, ?_, ?_, ?_, ?_, ?_, ?_⟩
  · rw [cell_atL h1]; rfl
  · rw [cell_atL h1]; rfl
  · rw [cell_atL h1]; rfl
  · rw [cell_atL h1]; rfl
  · rw [cell_atL h2]; rfl
  · rw [cell_atL h2]; rfl
  · rw [cell_atL h2]; rfl
  · rw [cell_atL h2]; rfl
set_option maxHeartbeats 4000000 in
theorem sameImage_any (w : World) (ta fa da ta' fa' da' : Option Addr) (tc fc dc tc' fc' dc' : Nat) (m : Img) (h : ImS w ta fa da m) (h' : ImS w ta' fa' da' m) (hT : m.T.length ≤ 140737488355328) (hF : m.F.length ≤ 140737488355328) (hD : m.D.length ≤ 140737488355328) : Calls Tryd.prog 9 #[.agg #[.slice ta m.T.length tc, .slice fa m.F.length fc, .slice da m.D.length dc, .int .i64 m.en], .agg #[.slice ta' m.T.length tc', .slice fa' m.F.length fc', .slice da' m.D.length dc', .int .i64 m.en]] w fun e w' => e = .returned (.bool true) ∧ Out w w' := by
  obtain ⟨q, hq⟩ : ∃ q, Hid (q = w.heap.size) := ⟨_, rfl⟩
  obtain ⟨K, hK⟩ : ∃ K : World → Prop, Hid (K = Bx2 w q (.slice ta m.T.length tc) (.slice fa m.F.length fc) (.slice da m.D.length dc) (.int .i64 m.en) (.slice ta' m.T.length tc') (.slice fa' m.F.length fc') (.slice da' m.D.length dc') (.int .i64 m.en)) := ⟨_, rfl⟩
  have C1 : Hid (∀ wx, K wx → Calls Tryd.prog 17 #[.slice ta m.T.length tc, .slice ta' m.T.length tc'] wx fun e w' => e = .returned (.bool true) ∧ K w') := hidOf fun wx o => by
    rw [hK.out] at o ⊢
    exact (sameI17 wx _ _ _ _ _ m.T rfl (h.t.out o.1) (h'.t.out o.1) hT).mono (fun e w' ⟨he, k, hk⟩ => ⟨he, by rw [hk]; exact o.drewN k⟩)
  have C2 : Hid (∀ wx, K wx → Calls Tryd.prog 18 #[.slice fa m.F.length fc, .slice fa' m.F.length fc'] wx fun e w' => e = .returned (.bool true) ∧ K w') := hidOf fun wx o => by
    rw [hK.out] at o ⊢
    exact (sameF17 wx _ _ _ _ _ m.F rfl (h.f.out o.1) (h'.f.out o.1) hF).mono (fun e w' ⟨he, k, hk⟩ => ⟨he, by rw [hk]; exact o.drewN k⟩)
  have C3 : Hid (∀ wx, K wx → Calls Tryd.prog 19 #[.slice da m.D.length dc, .slice da' m.D.length dc'] wx fun e w' => e = .returned (.bool true) ∧ K w') := hidOf fun wx o => by
    rw [hK.out] at o ⊢
    exact (sameD17 wx _ _ _ _ _ m.D rfl (h.d.out o.1) (h'.d.out o.1) hD).mono (fun e w' ⟨he, k, hk⟩ => ⟨he, by rw [hk]; exact o.drewN k⟩)
  clear h h' hT hF hD
  have K0 := Bx2.new w (.slice ta m.T.length tc) (.slice fa m.F.length fc) (.slice da m.D.length dc) (.int .i64 m.en) (.slice ta' m.T.length tc') (.slice fa' m.F.length fc') (.slice da' m.D.length dc') (.int .i64 m.en) 26 26
  rw [← hq.out, ← hK.out] at K0
  go_enter Tryd.func9, Tryd.ntmps9
  go_upto_region 1 with fail
  generalize hw0 : (w.alloc _).alloc _ = w0 at K0 ⊢
  have KH := hidOf K0
  rw [hK.out] at K0
  obtain ⟨o0, p0, p1, p2, p3, q0, q1, q2, q3⟩ := K0
  rw [hq.out] at p0 p1 p2 p3 q0 q1 q2 q3
  go_wp2_with (first
    | (go_at_call 17; refine (C1.out _ KH.out).mono ?_; rintro e w2 ⟨rfl, h2⟩; have H2 := hidOf h2; rw [hK.out, hq.out] at h2; obtain ⟨o2, r0, r1, r2, r3, s0, s1, s2, s3⟩ := h2)
    | (go_at_call 18; refine (C2.out _ H2.out).mono ?_; rintro e w3 ⟨rfl, h3⟩; have H3 := hidOf h3; rw [hK.out, hq.out] at h3; obtain ⟨o3, t0, t1, t2, t3, u0, u1, u2, u3⟩ := h3)
    | (go_at_call 19; refine (C3.out _ H3.out).mono ?_; rintro e w4 ⟨rfl, h4⟩; have H4 := hidOf h4; rw [hK.out, hq.out] at h4; obtain ⟨o4, v0, v1, v2, v3, x0, x1, x2, x3⟩ := h4))
  go_ret
  have := H4.out
  rw [hK.out] at this
  exact ⟨by simp, this.1⟩
end Go.Proofs.YtbnoaedkonnflaaDoor
namespace Go.Proofs.YtbnoaedkonnflaaDoor
open Go.RowKit
set_option linter.unusedVariables false
set_option linter.unusedSimpArgs false
def oneM : Img := ⟨[⟨149, 0, 0, 0, 0⟩], [⟨[102], 0, 0, 1⟩], [], 0⟩
/-- the document's example -/
theorem one17_any (w : World) : Calls Tryd.prog 15 #[] w fun e w' => ∃ t f, e = .returned (.agg #[.slice (some ⟨t, 0, none⟩) 1 1, .slice (some ⟨f, 0, none⟩) 1 1, .slice none 0 0, .int .i64 0]) ∧ ImA w' (some ⟨t, 0, none⟩) (some ⟨f, 0, none⟩) none oneM ∧ Out w w' := by
  obtain ⟨w3, hw3⟩ : ∃ w3, Hid (w3 = ((w.alloc (.cells #[.slice (some ⟨w.heap.size + 1, 0, none⟩) 1 1, .slice (some ⟨w.heap.size + 1 + 1, 0, none⟩) 1 1, .slice none 0 0, .int .i64 0] 26)).alloc (.cells #[.int .i64 149, .int .i64 0, .int .i64 0, .int .i64 0, .int .i64 0] 78)).alloc (.cells #[.string ⟨#[102]⟩, .int .i64 0, .int .i64 0, .int .i64 1] 80)) := ⟨_, rfl⟩
  have b0 : w3.heap[w.heap.size]? = some (.cells #[.slice (some ⟨w.heap.size + 1, 0, none⟩) 1 1, .slice (some ⟨w.heap.size + 1 + 1, 0, none⟩) 1 1, .slice none 0 0, .int .i64 0] 26 (0, 0)) := by
    rw [hw3.out, Below.heap_alloc _ _ _ (by rw [size_alloc, size_alloc]; omega), Below.heap_alloc _ _ _ (by rw [size_alloc]; omega)]; exact heap_alloc_new w _
  have b1 : w3.heap[w.heap.size + 1]? = some (.cells #[.int .i64 149, .int .i64 0, .int .i64 0, .int .i64 0, .int .i64 0] 78 (0, 0)) := by
    rw [hw3.out, Below.heap_alloc _ _ _ (by rw [size_alloc, size_alloc]; omega)]
    have := heap_alloc_new (w.alloc (.cells #[.slice (some ⟨w.heap.size + 1, 0, none⟩) 1 1, .slice (some ⟨w.heap.size + 1 + 1, 0, none⟩) 1 1, .slice none 0 0, .int .i64 0] 26)) (.cells #[.int .i64 149, .int .i64 0, .int .i64 0, .int .i64 0, .int .i64 0] 78)
    rw [size_alloc] at this; exact this
  have b2 : w3.heap[w.heap.size + 1 + 1]? = some (.cells #[.string ⟨#[102]⟩, .int .i64 0, .int .i64 0, .int .i64 1] 80 (0, 0)) := by
    have := heap_alloc_new ((w.alloc (.cells #[.slice (some ⟨w.heap.size + 1, 0, none⟩) 1 1, .slice (some ⟨w.heap.size + 1 + 1, 0, none⟩) 1 1, .slice none 0 0, .int .i64 0] 26)).alloc (.cells #[.int .i64 149, .int .i64 0, .int .i64 0, .int .i64 0, .int .i64 0] 78)) (.cells #[.string ⟨#[102]⟩, .int .i64 0, .int .i64 0, .int .i64 1] 80)
    rw [size_alloc, size_alloc, ← hw3.out] at this; exact this
  have hA : ImA w3 (some ⟨w.heap.size + 1, 0, none⟩) (some ⟨w.heap.size + 1 + 1, 0, none⟩) none oneM := by
    refine ⟨.inr ⟨_, _, rfl, fun k x hx => ?_⟩, .inr ⟨_, _, rfl, fun k x hx => ?_⟩, .inl rfl, by decide, fun x hx => ?_⟩
    · match k, hx with
      | 0, hx => cases hx; exact ⟨by rw [cell_atL b1]; rfl, by rw [cell_atL b1]; rfl, by rw [cell_atL b1]; rfl, by rw [cell_atL b1]; rfl, by rw [cell_atL b1]; rfl⟩
    · match k, hx with
      | 0, hx => cases hx; exact ⟨by rw [cell_atL b2]; rfl, by rw [cell_atL b2]; rfl, by rw [cell_atL b2]; rfl, by rw [cell_atL b2]; rfl⟩
    · simp [oneM] at hx; subst hx; exact ⟨by decide, by decide, by decide⟩
  have hO : Out w w3 := by rw [hw3.out]; exact Out.alloc (Out.alloc (Out.alloc (Out.refl _) _) _) _
  go_enter Tryd.func15, Tryd.ntmps15
  go_wp2
  rw [← hw3.out]
  refine bodyPost_ret (results_cell_row rfl _ _ w.heap.size 26 _ (0, 0) _ rfl b0 Tryd.underlying26 rfl (by kernel_rfl)) rfl ?_
  exact ⟨_, _, rfl, hA, hO⟩
theorem one_len : (wrB oneM).length = 55 := by decide +kernel
theorem one_28 : (wrB oneM)[28]? = some 149 := by decide +kernel
theorem one_53 : (wrB oneM)[53]? = some 102 := by decide +kernel
theorem one_ck : (ckP oneM).2 = 0 := by decide +kernel
theorem awake17_any (w : World) : Calls Tryd.prog 7 #[] w fun e w' => e = .returned (.bool true) ∧ Out w w' := by
  have CO := hidOf (one17_any w)
  have CW : Hid (∀ wx t f, ImA wx (some ⟨t, 0, none⟩) (some ⟨f, 0, none⟩) none oneM → Calls Tryd.prog 6 #[.agg #[.slice (some ⟨t, 0, none⟩) 1 1, .slice (some ⟨f, 0, none⟩) 1 1, .slice none 0 0, .int .i64 0]] wx fun e w' => ∃ g off c, e = .returned (.tuple #[.slice (some ⟨g, off, none⟩) 55 c, .int .i64 0, .int .i64 0]) ∧ 55 ≤ c ∧ w'.cell? ⟨g, off + 28, none⟩ = some (.int .u8 149) ∧ w'.cell? ⟨g, off + 53, none⟩ = some (.int .u8 102) ∧ Out wx w') := hidOf (fun wx t f hA => by
    refine (write_any oneM wx (some ⟨t, 0, none⟩) (some ⟨f, 0, none⟩) none 1 1 0 hA (by decide) (fun x hx => by simp [oneM] at hx; subst hx; simp)).mono ?_
    rintro e w' (⟨_, a, c, rfl, ow, o⟩ | ⟨h, _⟩)
    · obtain ⟨a', c', he, hc, hr⟩ := ow.rest
      cases he
      rcases hr with h | ⟨b, off, hb, rfl, hcell⟩
      · exact absurd (congrArg List.length h) (by rw [one_len]; decide)
      · rw [one_len] at hc ⊢
        exact ⟨b, off, c, rfl, hc, hcell 28 149 one_28, hcell 53 102 one_53, o⟩
    · exact absurd one_ck h)
  go_enter Tryd.func7, Tryd.ntmps7
  go_upto_region 2 with (first
    | (go_at_call 15; refine CO.out.mono ?_; rintro e w1 ⟨t, f, rfl, hA, o1⟩; have HA := hidOf hA; have O1 := hidOf o1; clear hA o1)
    | (go_at_call 6; refine (CW.out _ _ _ HA.out).mono ?_; rintro e w2 ⟨g, off, c, rfl, hc, c28, c53, o2⟩; have O2 := hidOf (O1.out.trans o2); clear o2))
  have hci : (55 : Int) ≤ c := by omega
  go_wp2
  go_ret
  exact ⟨by simp, O2.out⟩
end Go.Proofs.YtbnoaedkonnflaaDoor
namespace Go.Proofs.YtbnoaedkonnflaaDoor
open Go.RowKit
set_option linter.unusedVariables false
set_option linter.unusedSimpArgs false
theorem own_capN {B n sz cp : Nat} {w : World} {e : TypeId} {a : Option Addr} {xs : List Value} (h : w.ownsRow B e sz (.slice a n cp) n xs) : n ≤ cp := by
  cases a with
  | some ad => exact own_cap h
  | none =>
    obtain ⟨hl, ⟨hv, hn⟩ | ⟨g, cap, cur, hv, _⟩⟩ := h
    · omega
    · cases hv
theorem num17 (n : Int) (w : World) : Calls Tryd.prog 12 #[.int .i64 n] w fun e w' => e = .returned (.int .i64 n) ∧ w = w' := by
  go_enter Tryd.func12, Tryd.ntmps12
  go_wp2
  go_ret
  exact ⟨rfl, rfl⟩
theorem rest_out {N : Nat} {w w' : World} {a : Option Addr} {l : List UInt8} (h : RestAt N w a l) (o : Out w w') : RestAt N w' a l := by
  rcases h with h | ⟨b, off, hb, ha, hc⟩
  · exact .inl h
  · exact .inr ⟨b, off, hb, ha, fun k x hx => cell_later o (hc k x hx)⟩
/-- Read, its answer in letters -/
def RdL (m : Img) (k : Nat) (er : Int) (w : World) (e : Ending) (w' : World) : Prop :=
  Out w w' ∧ ∃ (ta fa da : Option Addr) (tc fc dc : Nat), e = .returned (.tuple #[.agg #[.slice ta m.T.length tc, .slice fa m.F.length fc, .slice da m.D.length dc, .int .i64 m.en], .int .i64 (k : Nat), .int .i64 er]) ∧ ImS w' ta fa da m ∧ m.T.length ≤ tc
theorem RdE.l {l : List UInt8} {m : Img} {k : Nat} {er : Int} (h : rdI l = (m, k, er)) {w w' : World} {e : Ending} (r : RdE l w e w') : RdL m k er w e w' := by
  obtain ⟨o, ta, tc, fa, fc, da, dc, he, h1, h2, h3⟩ := r
  rw [h] at he h1 h2 h3
  exact ⟨o, ta, fa, da, tc, fc, dc, he, ⟨h1.insA, h2.fnA, h3.tdA⟩, own_capN h1⟩
set_option maxRecDepth 8000 in
set_option maxHeartbeats 2000000 in
theorem imageBytes_walk (W : World) (hT : Tb64 W) (h1 : 1 < W.heap.size) (a : Option Addr) (c : Nat) (l : List UInt8) (h : RestAt W.heap.size W a l) (hc : l.length ≤ c) (hn : l.length ≤ 140737488351232) : Calls Tryd.prog 4 #[.slice a l.length c] W fun e W' => e = .returned (.bool true) ∧ Out W W' := by
  obtain ⟨m, k, er, hr⟩ : ∃ m k er, Hid (rdI l = (m, k, er)) := ⟨_, _, _, hidOf rfl⟩
  have CR := hidOf ((read17_rest W a c l h hc hT h1 (by omega)).mono (fun e w' r => r.l hr.out))
  have HL := hidOf h
  clear h hT h1
  go_enter Tryd.func4, Tryd.ntmps4
  go_upto_region 2 with (go_at_call 8; refine CR.out.mono ?_; rintro e w1 ⟨o1, ta, fa, da, tc, fc, dc, rfl, S1, htc⟩; have O1 := hidOf o1; have HS1 := hidOf S1; clear o1 S1)
  obtain ⟨w2, hw2⟩ : ∃ w2, Hid (w2 = w1.alloc (.cells #[.slice ta m.T.length tc, .slice fa m.F.length fc, .slice da m.D.length dc, .int .i64 m.en] 26)) := ⟨_, rfl⟩
  rw [← hw2.out]
  have B2 : Hid (w2.heap[w1.heap.size]? = some (.cells #[.slice ta m.T.length tc, .slice fa m.F.length fc, .slice da m.D.length dc, .int .i64 m.en] 26 (0, 0))) := hidOf (by rw [hw2.out]; exact heap_alloc_new w1 _)
  have O2 : Hid (Out W w2) := hidOf (by rw [hw2.out]; exact O1.out.alloc _)
  have S2 : Hid (ImS w2 ta fa da m) := hidOf (HS1.out.out (by rw [hw2.out]; exact Out.alloc (Out.refl _) _))
  have z0 : w2.cell? ⟨w1.heap.size, 0, none⟩ = some (.slice ta m.T.length tc) := by rw [cell_atL B2.out]; rfl
  have z1 : w2.cell? ⟨w1.heap.size, 1, none⟩ = some (.slice fa m.F.length fc) := by rw [cell_atL B2.out]; rfl
  have z2 : w2.cell? ⟨w1.heap.size, 2, none⟩ = some (.slice da m.D.length dc) := by rw [cell_atL B2.out]; rfl
  have z3 : w2.cell? ⟨w1.heap.size, 3, none⟩ = some (.int .i64 m.en) := by rw [cell_atL B2.out]; rfl
  by_cases he : er = 0
  · subst he
    obtain ⟨hp, hk0, hok⟩ := pas_of hr.out
    subst hk0
    have HP := hidOf hp
    have hck := hidOf (ok_ck hok)
    have hwr := hidOf (forth_I hp).1
    have hli := hidOf (forth_I hp).2
    have hA : Hid (ImA w2 ta fa da m) := hidOf ⟨S2.out.t, S2.out.f, S2.out.d, pas_len hp (hd_lim (pas_hd hp)), pas_small hp (hd_lim (pas_hd hp))⟩
    clear hp hok
    have C5 : Hid (Calls Tryd.prog 5 #[.agg #[.slice ta m.T.length tc, .slice fa m.F.length fc, .slice da m.D.length dc, .int .i64 m.en]] w2 fun e w' => e = .returned (.tuple #[.int .i64 0, .int .i64 0]) ∧ Out w2 w') := hidOf (by
      have := check_any m w2 ta fa da tc fc dc hA.out
      rw [hck.out] at this; exact this)
    have C6 : Hid (∀ wx, Out w2 wx → Calls Tryd.prog 6 #[.agg #[.slice ta m.T.length tc, .slice fa m.F.length fc, .slice da m.D.length dc, .int .i64 m.en]] wx fun e w' => ∃ a' c', e = .returned (.tuple #[.slice a' l.length c', .int .i64 0, .int .i64 0]) ∧ RestAt w'.heap.size w' a' l ∧ Out wx w') := hidOf (fun wx o => by
      refine (write_any m wx ta fa da tc fc dc (hA.out.out o) htc hli.out).mono ?_
      rintro e w' (⟨_, a', c', rfl, ow, o'⟩ | ⟨h, _⟩)
      · obtain ⟨a2, c2, he2, _, hr2⟩ := ow.rest
        cases he2
        rw [hwr.out] at hr2 ⊢
        exact ⟨a', c', rfl, hr2, o'⟩
      · exact absurd (by rw [hck.out]) h)
    go_upto_region 5 with (go_at_call 5; refine C5.out.mono ?_; rintro e w3 ⟨rfl, o3⟩)
    have O3 := hidOf o3
    have y0 := cell_later o3 z0
    have y1 := cell_later o3 z1
    have y2 := cell_later o3 z2
    have y3 := cell_later o3 z3
    clear o3 z0 z1 z2 z3
    go_upto_region 6 with (go_at_call 6; refine (C6.out _ O3.out).mono ?_; rintro e w4 ⟨a', c', rfl, hr4, o4⟩)
    have O4 := hidOf (O2.out.trans (O3.out.trans o4))
    have CS := hidOf (sameBytes_any a a' c c' l w4 (rest_out HL.out O4.out) hr4)
    have CA := hidOf (awake17_any w4)
    have CN := hidOf (num17 0 w4)
    clear hr4 o4 y0 y1 y2 y3
    go_wp2_with (first
      | (go_at_call 11; refine CS.out.mono ?_; rintro e w5 ⟨rfl, h5⟩; subst h5)
      | (go_at_call 12; refine CN.out.mono ?_; rintro e w6 ⟨rfl, h6⟩; subst h6)
      | (go_at_call 7; refine CA.out.mono ?_; rintro e w7 ⟨rfl, o7⟩; have O7 := hidOf (O4.out.trans o7); clear o7))
    go_ret
    exact ⟨by simp, O7.out⟩
  · have hbt : (er != 0) = true := by simp [he]
    have hbf : (er == 0) = false := by simp [he]
    have hm : m = nilM := by
      have := rd_err (l := l) (by rw [hr.out]; exact he)
      rw [hr.out] at this; exact this
    have hkl : (k : Int) ≤ l.length := by
      have := rd_le l
      rw [hr.out] at this
      simp only at this; omega
    have hk0 : (0 : Int) ≤ k := by omega
    have CS : Hid (Calls Tryd.prog 9 #[.agg #[.slice ta m.T.length tc, .slice fa m.F.length fc, .slice da m.D.length dc, .int .i64 m.en], .agg #[.slice none 0 0, .slice none 0 0, .slice none 0 0, .int .i64 0]] w2 fun e w' => e = .returned (.bool true) ∧ Out w2 w') := hidOf (by
      have := S2.out
      clear z0 z1 z2 z3 B2 hw2 HS1 CR
      subst hm
      exact sameImage_any w2 ta fa da none none none tc fc dc 0 0 0 nilM this ⟨.inl rfl, .inl rfl, .inl rfl⟩ (by decide) (by decide) (by decide))
    have CA : Hid (∀ wx, Calls Tryd.prog 7 #[] wx fun e w' => e = .returned (.bool true) ∧ Out wx w') := hidOf (fun wx => awake17_any wx)
    clear hm
    go_wp2_with (first
      | (go_at_call 9; refine CS.out.mono ?_; rintro e w5 ⟨rfl, o5⟩; have O5 := hidOf (O2.out.trans o5); clear o5)
      | (go_at_call 7; refine (CA.out _).mono ?_; rintro e w7 ⟨rfl, o7⟩; have O7 := hidOf (O5.out.trans o7); clear o7))
    go_ret
    exact ⟨by simp, O7.out⟩
end Go.Proofs.YtbnoaedkonnflaaDoor
