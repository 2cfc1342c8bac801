import Derived.Test.YtgephenkbbelcaaDoorDqa
import Derived.Deep.RegionHeld3
namespace Go.Proofs.YtgephenkbbelcaaDoor
open Go.RowKit
set_option linter.unusedVariables false
set_option linter.unusedSimpArgs false
theorem setCell_selfQ {w : World} {b j : Nat} {cs : Array Value} {t : TypeId} {fr : Nat × Nat} {u : Value} (h : w.heap[b]? = some (.cells cs t fr)) (hj : cs[j]? = some u) : w.setCell ⟨b, j, none⟩ u = w := by
  have hh : (w.setCell ⟨b, j, none⟩ u).heap = w.heap := by
    apply Array.ext_getElem?
    intro k
    by_cases hk : k = b
    · subst hk
      have hset : cs.setIfInBounds j u = cs := by
        apply Array.ext_getElem?
        intro x
        rw [Array.getElem?_setIfInBounds]
        by_cases hx : j = x
        · subst hx; simp [hj]; exact (Array.getElem?_eq_some_iff.1 hj).1
        · rw [if_neg hx]
      simp [World.setCell, Array.getElem?_modify, h, hset]
    · exact Below.heap_setCell w ⟨b, j, none⟩ u k hk
  cases w
  simp only [World.setCell] at hh ⊢
  simp only [hh]
/-- the queue's block at p, and its four rows (untouched, what they held, kept, what they must hold) -/
structure QF (w : World) (p : Nat) (mk tt : Int) (r : Nat → Value) (L : Nat → List Value) : Prop where
  st : w.heap[p]? = some (.cells #[.int .i64 mk, .int .i64 tt, .bool false, r 0, r 1, r 2, r 3] 28 (0, 0))
  row : ∀ j, j < 4 → w.ownsRow 0 30 1 (r j) (L j).length (L j)
  sep : ∀ i j b, i < 4 → j < 4 → ¬ i = j → (r i).ownBlock = some b → ¬ (r j).ownBlock = some b
theorem QF.lt {w : World} {p : Nat} {mk tt : Int} {r : Nat → Value} {L : Nat → List Value} (h : QF w p mk tt r L) : p < w.heap.size := (Array.getElem?_eq_some_iff.1 h.st).1
theorem owns_outQ {B size : Nat} {w w' : World} {e : TypeId} {v : Value} {n : Nat} {xs : List Value} (h : w.ownsRow B e size v n xs) (o : Out w w') : w'.ownsRow B e size v n xs := owns_chg (S := fun _ => False) h (fun _ _ h => h) (Chg.of_out o)
theorem QF.out {w w' : World} {p : Nat} {mk tt : Int} {r : Nat → Value} {L : Nat → List Value} (h : QF w p mk tt r L) (o : Out w w') : QF w' p mk tt r L := ⟨(o.block p h.lt).trans h.st, fun j hj => owns_outQ (h.row j hj) o, h.sep⟩
/-- a row's place -/
theorem own_getQ {B : Nat} {w : World} {e : TypeId} {a : Option Addr} {n c : Nat} {xs : List Value} (h : w.ownsRow B e 1 (.slice a n c) n xs) {i : Nat} {x : Value} (hx : xs[i]? = some x) : ∃ g, a = some ⟨g, 0, none⟩ ∧ w.cell? ⟨g, i, none⟩ = some x := by
  have hi := (List.getElem?_eq_some_iff.1 hx).1
  have hl := h.1
  rcases h.2 with ⟨hv, hn⟩ | ⟨g, cap, cur, hv, _⟩
  · omega
  · have hv2 := hv
    simp only [Value.slice.injEq] at hv2
    refine ⟨g, hv2.1, ?_⟩
    have := World.ownsRow.cells h (g := g) (by rw [hv]; rfl) i x hx
    rw [WideShapes.add_plain, Nat.zero_add] at this
    exact this
/-- two lists that hold the same -/
def PrQ (w : World) (X Y : List Value) : Prop := ∀ (i : Nat) x y, X[i]? = some x → Y[i]? = some y → ∃ N a1 c1 a2 c2, x = .slice a1 N.length c1 ∧ y = .slice a2 N.length c2 ∧ OwI 0 x N w ∧ OwI 0 y N w ∧ N.length ≤ 1000000000000
theorem PrQ.chg {S : Nat → Prop} {w w' : World} {X Y : List Value} (h : PrQ w X Y) (c : Chg S w w') (hs : ∀ (i : Nat) x b, X[i]? = some x ∨ Y[i]? = some x → x.ownBlock = some b → ¬ S b) : PrQ w' X Y := fun i x y hx hy => by
  obtain ⟨N, a1, c1, a2, c2, h1, h2, h3, h4, h5⟩ := h i x y hx hy
  exact ⟨N, a1, c1, a2, c2, h1, h2, owns_chg h3 (fun k hk => hs i x k (.inl hx) hk) c, owns_chg h4 (fun k hk => hs i y k (.inr hy) hk) c, h5⟩
theorem PrQ.out {w w' : World} {X Y : List Value} (h : PrQ w X Y) (o : Out w w') : PrQ w' X Y := h.chg (S := fun _ => False) (Chg.of_out o) (fun _ _ _ _ _ h => h)
theorem OwI.at2 {B : Nat} {a : Option Addr} {n c : Nat} {N : List Ins} {w : World} (h : OwI B (.slice a n c) N w) : InsA w a N := by
  obtain ⟨a', c', e, hat, _⟩ := owns_insA h
  simp only [Value.slice.injEq] at e
  rw [e.1]; exact hat
theorem sameQ2 (w : World) (a a' : Option Addr) (n c c' : Nat) (N : List Ins) (hn : N.length = n) (h : OwI 0 (.slice a n c) N w) (h' : OwI 0 (.slice a' n c') N w) (hl : n ≤ 1000000000000) : Calls Tryd.prog 10 #[.slice a n c, .slice a' n c'] w fun e w' => e = .returned (.bool true) ∧ Out w w' := by
  refine (sameI w a a' n c c' N hn h.at2 h'.at2 (by omega)).mono ?_
  rintro e w' ⟨rfl, m, rfl⟩
  exact ⟨rfl, (Out.refl w).drewN m⟩
set_option maxRecDepth 20000 in
set_option maxHeartbeats 1000000 in
theorem untouchedQ_any (w : World) (p : Nat) (mk tt : Int) (r : Nat → Value) (L : Nat → List Value) (h : QF w p mk tt r L) (hl : (L 1).length = (L 0).length) (hp : PrQ w (L 0) (L 1)) (hF : (L 0).length ≤ 1000000000000) :
    Calls Tryd.prog 19 #[.pointer (some ⟨p, 0, none⟩)] w fun e w' => (∃ q, e = .returned q) ∧ Out w w' := by
  obtain ⟨af, cf, e0⟩ := own_form (h.row 0 (by omega))
  obtain ⟨aw, cw, e1⟩ := own_form (h.row 1 (by omega))
  have q0 := h.row 0 (by omega)
  have q1 := h.row 1 (by omega)
  rw [e0] at q0
  rw [e1] at q1
  have H := hidOf h
  have HP := hidOf hp
  have Hl := hidOf hl
  have Q0 := hidOf q0
  have Q1 := hidOf q1
  have c1 : w.cell? ⟨p, 2, none⟩ = some (.bool false) := by rw [cell_atL h.st]; rfl
  have c2 : w.cell? ⟨p, 3, none⟩ = some (.slice af (L 0).length cf) := by rw [cell_atL h.st, ← e0]; rfl
  have c3 : w.cell? ⟨p, 4, none⟩ = some (.slice aw (L 0).length cw) := by rw [cell_atL h.st, ← hl, ← e1]; rfl
  have HFz : Hid (∀ wx, Out w wx → wx.frozen? ⟨p, 2, none⟩ = false ∧ wx.setCell ⟨p, 2, none⟩ (.bool false) = wx) := fun wx o => ⟨frozen_atL (h.out o).st 2, setCell_selfQ (h.out o).st rfl⟩
  clear h hp hl e0 e1 q0 q1
  go_enter Tryd.func19, Tryd.ntmps19
  go_wp2
  go_loopw [2] (fun kv wr => ∃ k : Nat, kv = .int .i64 k ∧ k ≤ (L 0).length ∧ Hid (Out w wr)) (fun kv _ => (L 0).length - (intOf kv).toNat)
  case atStart => exact ⟨0, rfl, by omega, hidOf (Out.refl w)⟩
  case round =>
    obtain ⟨k, rfl, hk, HO⟩ := hrel
    have d1 := cell_later HO.out c1
    have d2 := cell_later HO.out c2
    have d3 := cell_later HO.out c3
    by_cases hlt : k < (L 0).length
    · have hltI : (k : Int) < (L 0).length := by omega
      obtain ⟨x, hx⟩ : ∃ x, (L 0)[k]? = some x := ⟨_, List.getElem?_eq_getElem hlt⟩
      obtain ⟨y, hy⟩ : ∃ y, (L 1)[k]? = some y := ⟨_, List.getElem?_eq_getElem (by have := Hl.out; omega)⟩
      obtain ⟨gf, rfl, qf⟩ := own_getQ Q0.out hx
      obtain ⟨gw, rfl, qw⟩ := own_getQ Q1.out hy
      have qf := cell_later HO.out qf
      have qw := cell_later HO.out qw
      obtain ⟨T, a1, b1, a2, b2, rfl, rfl, t1, t2, hT⟩ := HP.out k x y hx hy
      have T1 := hidOf (t1.out HO.out)
      have T2 := hidOf (t2.out HO.out)
      have fz := (HFz.out wr HO.out).1
      clear hx hy t1 t2
      have CS : Hid (∀ wx, Out wr wx → Calls Tryd.prog 10 #[.slice a1 T.length b1, .slice a2 T.length b2] wx fun e w' => e = .returned (.bool true) ∧ Out wx w') := fun wx ho => sameQ2 wx a1 a2 _ b1 b2 T rfl (T1.out.out ho) (T2.out.out ho) hT
      go_upto_region 3 with fail
      go_region_held3 (fun w' => w'.cell? ⟨p, 2, none⟩ = some (.bool false) ∧ w'.cell? ⟨p, 3, none⟩ = some (.slice (some ⟨gf, 0, none⟩) (L 0).length cf) ∧ w'.cell? ⟨p, 4, none⟩ = some (.slice (some ⟨gw, 0, none⟩) (L 0).length cw) ∧ w'.cell? ⟨gf, k, none⟩ = some (.slice a1 T.length b1) ∧ w'.cell? ⟨gw, k, none⟩ = some (.slice a2 T.length b2) ∧ w'.frozen? ⟨p, 2, none⟩ = false) (first | exact ⟨d1, d2, d3, qf, qw, fz⟩ | exact ⟨e1, e2, e3, e5, e6, e7⟩ | (rw [HS.out]; exact ⟨e1, e2, e3, e5, e6, e7⟩) | go_keep) (first | (go_at_call 10; refine (CS.out _ ((Out.refl wr).drewN _)).mono ?_; rintro e w2 ⟨rfl, h2⟩; have O2 := hidOf (Out.trans (HO.out.drewN _) h2); have e1 := cell_later h2 d1; have e2 := cell_later h2 d2; have e3 := cell_later h2 d3; have e5 := cell_later h2 qf; have e6 := cell_later h2 qw; have e7 := (HFz.out w2 O2.out).1; have HS := hidOf (HFz.out w2 O2.out).2; clear h2))
      all_goals go_wp2
      all_goals go_roundw
      case rel =>
        try rw [HS.out]
        exact ⟨k + 1, by simp, by omega, O2⟩
      case measure => simp [intOf]; omega
    · have hltI : ¬ (k : Int) < (L 0).length := by omega
      go_wp2
      go_end0
      exact ⟨⟨_, rfl⟩, HO.out⟩
set_option maxRecDepth 20000 in
set_option maxHeartbeats 1000000 in
theorem keptQ_any (w : World) (p : Nat) (mk tt : Int) (r : Nat → Value) (L : Nat → List Value) (h : QF w p mk tt r L) (hl : (L 3).length = (L 2).length) (hp : PrQ w (L 2) (L 3)) (hF : (L 2).length ≤ 1000000000000) :
    Calls Tryd.prog 34 #[.pointer (some ⟨p, 0, none⟩)] w fun e w' => (∃ q, e = .returned q) ∧ Out w w' := by
  obtain ⟨af, cf, e0⟩ := own_form (h.row 2 (by omega))
  obtain ⟨aw, cw, e1⟩ := own_form (h.row 3 (by omega))
  have q0 := h.row 2 (by omega)
  have q1 := h.row 3 (by omega)
  rw [e0] at q0
  rw [e1] at q1
  have H := hidOf h
  have HP := hidOf hp
  have Hl := hidOf hl
  have Q0 := hidOf q0
  have Q1 := hidOf q1
  have c1 : w.cell? ⟨p, 2, none⟩ = some (.bool false) := by rw [cell_atL h.st]; rfl
  have c2 : w.cell? ⟨p, 5, none⟩ = some (.slice af (L 2).length cf) := by rw [cell_atL h.st, ← e0]; rfl
  have c3 : w.cell? ⟨p, 6, none⟩ = some (.slice aw (L 2).length cw) := by rw [cell_atL h.st, ← hl, ← e1]; rfl
  have HFz : Hid (∀ wx, Out w wx → wx.frozen? ⟨p, 2, none⟩ = false ∧ wx.setCell ⟨p, 2, none⟩ (.bool false) = wx) := fun wx o => ⟨frozen_atL (h.out o).st 2, setCell_selfQ (h.out o).st rfl⟩
  clear h hp hl e0 e1 q0 q1
  go_enter Tryd.func34, Tryd.ntmps34
  go_wp2
  go_loopw [2] (fun kv wr => ∃ k : Nat, kv = .int .i64 k ∧ k ≤ (L 2).length ∧ Hid (Out w wr)) (fun kv _ => (L 2).length - (intOf kv).toNat)
  case atStart => exact ⟨0, rfl, by omega, hidOf (Out.refl w)⟩
  case round =>
    obtain ⟨k, rfl, hk, HO⟩ := hrel
    have d1 := cell_later HO.out c1
    have d2 := cell_later HO.out c2
    have d3 := cell_later HO.out c3
    by_cases hlt : k < (L 2).length
    · have hltI : (k : Int) < (L 2).length := by omega
      obtain ⟨x, hx⟩ : ∃ x, (L 2)[k]? = some x := ⟨_, List.getElem?_eq_getElem hlt⟩
      obtain ⟨y, hy⟩ : ∃ y, (L 3)[k]? = some y := ⟨_, List.getElem?_eq_getElem (by have := Hl.out; omega)⟩
      obtain ⟨gf, rfl, qf⟩ := own_getQ Q0.out hx
      obtain ⟨gw, rfl, qw⟩ := own_getQ Q1.out hy
      have qf := cell_later HO.out qf
      have qw := cell_later HO.out qw
      obtain ⟨T, a1, b1, a2, b2, rfl, rfl, t1, t2, hT⟩ := HP.out k x y hx hy
      have T1 := hidOf (t1.out HO.out)
      have T2 := hidOf (t2.out HO.out)
      have fz := (HFz.out wr HO.out).1
      clear hx hy t1 t2
      have CS : Hid (∀ wx, Out wr wx → Calls Tryd.prog 10 #[.slice a1 T.length b1, .slice a2 T.length b2] wx fun e w' => e = .returned (.bool true) ∧ Out wx w') := fun wx ho => sameQ2 wx a1 a2 _ b1 b2 T rfl (T1.out.out ho) (T2.out.out ho) hT
      go_upto_region 3 with fail
      go_region_held3 (fun w' => w'.cell? ⟨p, 2, none⟩ = some (.bool false) ∧ w'.cell? ⟨p, 5, none⟩ = some (.slice (some ⟨gf, 0, none⟩) (L 2).length cf) ∧ w'.cell? ⟨p, 6, none⟩ = some (.slice (some ⟨gw, 0, none⟩) (L 2).length cw) ∧ w'.cell? ⟨gf, k, none⟩ = some (.slice a1 T.length b1) ∧ w'.cell? ⟨gw, k, none⟩ = some (.slice a2 T.length b2) ∧ w'.frozen? ⟨p, 2, none⟩ = false) (first | exact ⟨d1, d2, d3, qf, qw, fz⟩ | exact ⟨e1, e2, e3, e5, e6, e7⟩ | (rw [HS.out]; exact ⟨e1, e2, e3, e5, e6, e7⟩) | go_keep) (first | (go_at_call 10; refine (CS.out _ ((Out.refl wr).drewN _)).mono ?_; rintro e w2 ⟨rfl, h2⟩; have O2 := hidOf (Out.trans (HO.out.drewN _) h2); have e1 := cell_later h2 d1; have e2 := cell_later h2 d2; have e3 := cell_later h2 d3; have e5 := cell_later h2 qf; have e6 := cell_later h2 qw; have e7 := (HFz.out w2 O2.out).1; have HS := hidOf (HFz.out w2 O2.out).2; clear h2))
      all_goals go_wp2
      all_goals go_roundw
      case rel =>
        try rw [HS.out]
        exact ⟨k + 1, by simp, by omega, O2⟩
      case measure => simp [intOf]; omega
    · have hltI : ¬ (k : Int) < (L 2).length := by omega
      go_wp2
      go_end0
      exact ⟨⟨_, rfl⟩, HO.out⟩
theorem holdsQ_any (w : World) (p : Nat) (mk tt : Int) (r : Nat → Value) (L : Nat → List Value) (h : QF w p mk tt r L) (hl : (L 1).length = (L 0).length) (hp : PrQ w (L 0) (L 1)) (hF : (L 0).length ≤ 1000000000000) (hl2 : (L 3).length = (L 2).length) (hp2 : PrQ w (L 2) (L 3)) (hK : (L 2).length ≤ 1000000000000) :
    Calls Tryd.prog 21 #[.pointer (some ⟨p, 0, none⟩)] w fun e w' => e = .returned (.bool true) ∧ Out w w' := by
  have HU := hidOf (untouchedQ_any w p mk tt r L h hl hp hF)
  have HQ : Hid (∀ wx, Out w wx → Calls Tryd.prog 34 #[.pointer (some ⟨p, 0, none⟩)] wx fun e w' => (∃ q, e = .returned q) ∧ Out wx w') := fun wx o => keptQ_any wx p mk tt r L (h.out o) hl2 (hp2.out o) hK
  have hc1 : ∀ wx, Out w wx → wx.cell? ⟨p, 2, none⟩ = some (.bool false) := fun wx o => by rw [cell_atL (h.out o).st]; rfl
  have HC := hidOf hc1
  clear h hp hp2 hl hl2 hc1
  go_enter Tryd.func21, Tryd.ntmps21
  go_wp2_with (first | (go_at_call 19; refine HU.out.mono ?_; rintro e w1 ⟨⟨q, rfl⟩, ho⟩; have O1 := hidOf ho; clear ho) | (go_at_call 34; refine (HQ.out _ O1.out).mono ?_; rintro e w2 ⟨⟨q2, rfl⟩, ho⟩; have O2 := hidOf (Out.trans O1.out ho); have c2 := HC.out w2 (Out.trans O1.out ho); clear ho))
  go_ret
  exact ⟨rfl, O2.out⟩
end Go.Proofs.YtgephenkbbelcaaDoor
