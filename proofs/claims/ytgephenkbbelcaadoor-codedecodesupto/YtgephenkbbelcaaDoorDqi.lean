import Derived.Test.YtgephenkbbelcaaDoorDqh
import Derived.Deep.RegionLaw
namespace Go.Proofs.YtgephenkbbelcaaDoor
open Go.RowKit
set_option linter.unusedVariables false
set_option linter.unusedSimpArgs false
/-- the blocks that an Own turns ahead of its writing -/
def SOw (p : Nat) (r : Nat → Value) (b : Nat) : Prop := b = p ∨ (r 0).ownBlock = some b ∨ (r 1).ownBlock = some b
theorem QF.sow {w : World} {p : Nat} {mk tt : Int} {r : Nat → Value} {L : Nat → List Value} (h : QF w p mk tt r L) {v : Value} {N : List Ins} {B : Nat} (hv : OwI B v N w) {b : Nat} (hb : v.ownBlock = some b) : ¬ SOw p r b := fun hs => by
  obtain ⟨_, cs, hc⟩ := own_blkQ hv hb
  rcases hs with e | e | e
  · have := h.st; rw [← e, hc] at this; simp at this
  · exact own_kind (h.row 0 (by omega)) hc (by decide) e
  · exact own_kind (h.row 1 (by omega)) hc (by decide) e
/-- a list that lies apart from all that the queue knows -/
structure New5 (B : Nat) (L : Nat → List Value) (x : Value) : Prop where
  lb : ∀ b, x.ownBlock = some b → B ≤ b
  f : ∀ (j : Nat) y b, (L 0)[j]? = some y → x.ownBlock = some b → ¬ y.ownBlock = some b
  k : ∀ (l : Nat) y b, (L 2)[l]? = some y ∨ (L 3)[l]? = some y → x.ownBlock = some b → ¬ y.ownBlock = some b
theorem get_snoc {α : Type} {A : List α} {x y : α} {j : Nat} (h : (A ++ [x])[j]? = some y) : (j < A.length ∧ A[j]? = some y) ∨ (j = A.length ∧ y = x) := by
  by_cases hj : j < A.length
  · rw [List.getElem?_append_left hj] at h; exact .inl ⟨hj, h⟩
  · have hl := (List.getElem?_eq_some_iff.1 h).1
    rw [List.length_append, List.length_singleton] at hl
    have he : j = A.length := by omega
    subst he
    rw [List.getElem?_append_right (Nat.le_refl _), Nat.sub_self] at h
    simp at h
    exact .inr ⟨rfl, h.symm⟩
/-- a list and its copy are taken -/
theorem QI.take {B : Nat} {w w' : World} {p : Nat} {mk tt t' : Int} {r r' : Nat → Value} {L L' : Nat → List Value} (h : QI B w p mk tt r L) {x u : Value} {N : List Ins} (hn : New5 B L x) (hN : N.length ≤ 100000000) (hx : OwI 0 x N w) (hu : OwI 0 u N w') (hs : QF w' p mk t' r' L') (l0 : L' 0 = L 0 ++ [x]) (l1 : L' 1 = L 1 ++ [u]) (l2 : L' 2 = L 2) (l3 : L' 3 = L 3) (c : Chg (SOw p r) w w')
    (r0 : ∀ b, (r' 0).ownBlock = some b → (r 0).ownBlock = some b ∨ w.heap.size ≤ b) (r1 : ∀ b, (r' 1).ownBlock = some b → (r 1).ownBlock = some b ∨ w.heap.size ≤ b) (r2 : r' 2 = r 2) (r3 : r' 3 = r 3) : QI B w' p mk t' r' L' := by
  have kp : ∀ B v N, OwI B v N w → OwI B v N w' := fun B v N hv => hv.chg c (fun b hb hs => h.sh.sow hv hb hs)
  have hpB : B ≤ p := h.lb p (.inl rfl)
  have hpw := h.sh.lt
  obtain ⟨ax, cx, ex⟩ := own_form hx
  obtain ⟨au, cu, eu⟩ := own_form hu
  have kpp : ∀ X Y, PrQ w X Y → PrQ w' X Y := fun X Y hp i x y hx hy => by
    obtain ⟨N, a1, c1, a2, c2, e1, e2, o1, o2, hb⟩ := hp i x y hx hy
    exact ⟨N, a1, c1, a2, c2, e1, e2, kp _ _ _ o1, kp _ _ _ o2, hb⟩
  refine ⟨hs, by rw [l0, l1]; simp [h.wl], by rw [l2, l3]; exact h.kl, ?_, by rw [l2, l3]; exact kpp _ _ h.pk, ?_, ?_, ?_, ?_⟩
  · rw [l0, l1]
    intro i y z hy hz
    rcases get_snoc hy with ⟨hi, hy⟩ | ⟨hi, rfl⟩
    · rcases get_snoc hz with ⟨_, hz⟩ | ⟨hi2, _⟩
      · exact kpp _ _ h.pf i y z hy hz
      · have := h.wl; omega
    · rcases get_snoc hz with ⟨hi2, _⟩ | ⟨_, rfl⟩
      · have := h.wl; omega
      · exact ⟨N, ax, cx, au, cu, ex, eu, kp _ _ _ hx, hu, by omega⟩
  · rw [l0]
    intro y hy
    rcases List.mem_append.1 hy with hy | hy
    · obtain ⟨M, h1, h2⟩ := h.bl y hy
      exact ⟨M, h1, kp _ _ _ h2⟩
    · rw [List.mem_singleton.1 hy]
      exact ⟨N, hN, kp _ _ _ hx⟩
  · rw [l0]
    intro i j y z hy hz hij b hb hzb
    rcases get_snoc hy with ⟨_, hy'⟩ | ⟨hi, e1⟩
    · rcases get_snoc hz with ⟨_, hz'⟩ | ⟨_, e2⟩
      · exact h.ds i j y z hy' hz' hij b hb hzb
      · exact hn.f i y b hy' (by rw [← e2]; exact hzb) hb
    · rcases get_snoc hz with ⟨_, hz'⟩ | ⟨hj, _⟩
      · exact hn.f j z b hz' (by rw [← e1]; exact hb) hzb
      · omega
  · rw [l0, l2, l3]
    intro l y b hy hb j z hz
    rcases get_snoc hz with ⟨_, hz⟩ | ⟨_, rfl⟩
    · exact h.ap l y b hy hb j z hz
    · exact fun e => hn.k l y b hy e hb
  · intro b hb
    rcases hb with e | ⟨j, hj, e⟩ | ⟨y, hy, e⟩
    · rw [e]; exact hpB
    · obtain rfl | rfl | rfl | rfl : j = 0 ∨ j = 1 ∨ j = 2 ∨ j = 3 := by omega
      · rcases r0 b e with e | e
        · exact h.lb b (.inr (.inl ⟨0, by omega, e⟩))
        · omega
      · rcases r1 b e with e | e
        · exact h.lb b (.inr (.inl ⟨1, by omega, e⟩))
        · omega
      · rw [r2] at e; exact h.lb b (.inr (.inl ⟨2, by omega, e⟩))
      · rw [r3] at e; exact h.lb b (.inr (.inl ⟨3, by omega, e⟩))
    · rw [l0] at hy
      rcases List.mem_append.1 hy with hy | hy
      · exact h.lb b (.inr (.inr ⟨y, hy, e⟩))
      · rw [List.mem_singleton.1 hy] at e; exact hn.lb b e
theorem copyI2 (w : World) (a : Option Addr) (n c : Nat) (N : List Ins) (hn : N.length = n) (h : OwI 0 (.slice a n c) N w) (hb : n ≤ 3518437208883) : Calls Tryd.prog 18 #[.slice a n c] w fun e w' => ∃ a5 c5, e = .returned (.slice a5 n c5) ∧ OwI w.heap.size (.slice a5 n c5) N w' ∧ Out w w' := by
  refine (copyI w a n c N hn h.at2 hb).mono ?_
  rintro e w' ⟨v, rfl, hv, ho⟩
  obtain ⟨a5, c5, rfl⟩ := own_form hv
  subst hn
  exact ⟨a5, c5, rfl, hv, ho⟩
/-- what Own leaves behind -/
def OwnQ (B : Nat) (w : World) (p : Nat) (mk t' : Int) (r : Nat → Value) (L : Nat → List Value) (x : Value) (w' : World) : Prop :=
  ∃ mk' r' L', mk ≤ mk' ∧ mk' ≤ mk + 4000000000 ∧ QI B w' p mk' t' r' L' ∧ (L' 0).length ≤ 2 ∧ (L' 2).length ≤ (L 2).length + 6 ∧ Chg (fun b => QSQ p r (L 0) b ∨ x.ownBlock = some b) w w' ∧ ∀ y b, (y ∈ L' 0 ∨ y ∈ L' 2 ∨ y ∈ L' 3) → y.ownBlock = some b → w.heap.size ≤ b ∨ (∃ z, (z ∈ L 0 ∨ z ∈ L 2 ∨ z ∈ L 3) ∧ z.ownBlock = some b) ∨ x.ownBlock = some b
theorem QI.holds {B : Nat} {w : World} {p : Nat} {mk tt : Int} {r : Nat → Value} {L : Nat → List Value} (h : QI B w p mk tt r L) (h0 : (L 0).length ≤ 1000000000000) (h2 : (L 2).length ≤ 1000000000000) : Calls Tryd.prog 21 #[.pointer (some ⟨p, 0, none⟩)] w fun e w' => e = .returned (.bool true) ∧ Out w w' :=
  holdsQ_any w p mk tt r L h.sh h.wl h.pf h0 h.kl h.pk h2
set_option maxRecDepth 20000 in
set_option maxHeartbeats 2000000 in
theorem ownQ_any (B : Nat) (w : World) (p : Nat) (mk tt : Int) (r : Nat → Value) (L : Nat → List Value) (h : QI B w p mk tt r L) (hF : (L 0).length ≤ 2) (hK : (L 2).length ≤ 90000) (m0 : 0 ≤ mk) (m1 : mk ≤ 100000000000000) (t0 : 0 ≤ tt) (t1 : tt ≤ 800000000) (a : Option Addr) (n c : Nat) (N : List Ins) (hNl : N.length = n) (hN : n ≤ 100000000) (hx : OwI 0 (.slice a n c) N w) (hnew : New5 B L (.slice a n c)) :
    Calls Tryd.prog 12 #[.pointer (some ⟨p, 0, none⟩), .slice a n c] w fun e w' => e = .returned (.bool true) ∧ OwnQ B w p mk (tt + n) r L (.slice a n c) w' := by
  obtain ⟨i0, hi, hz0, hz1, hz2⟩ := info_parts infoSyl
  obtain ⟨af, cf, e0⟩ := own_form (h.sh.row 0 (by omega))
  obtain ⟨ah, ch, e1⟩ := own_form (h.sh.row 1 (by omega))
  have H := hidOf h
  have HX := hidOf hx
  have HNl := hidOf hNl
  have HNw := hidOf hnew
  have E0 := hidOf e0
  have E1 := hidOf e1
  have hwl := h.wl
  have Hwl := hidOf h.wl
  have k0 : w.cell? ⟨p, 1, none⟩ = some (.int .i64 tt) := by rw [cell_atL h.sh.st]; rfl
  have f0 : w.frozen? ⟨p, 1, none⟩ = false := frozen_atL h.sh.st 1
  have Q1 := hidOf (h.sh.tot (tt + n))
  have C1 : Hid (Chg (fun b => b = p) w (w.setCell ⟨p, 1, none⟩ (.int .i64 (tt + n)))) := hidOf (Chg.setCell (S := fun k => k = p) (Chg.refl _ w) (p := ⟨p, 1, none⟩) rfl _)
  have hl1 : (L 1).length ≤ 2 := by omega
  clear h hx hNl hnew e0 e1 hwl
  go_enter Tryd.func12, Tryd.ntmps12
  go_upto_region 2 with fail
  clear k0 f0
  generalize w.setCell ⟨p, 1, none⟩ (.int .i64 (tt + n)) = w1 at *
  have k2 : w1.cell? ⟨p, 3, none⟩ = some (.slice af (L 0).length cf) := by rw [cell_atL Q1.out.st, ← E0.out]; rfl
  have R0 : Hid (∀ O, (w1.alloc O).ownsRow 0 30 1 (.slice af (L 0).length cf) (L 0).length (L 0)) := fun O => by
    have := (Q1.out.out ((Out.refl w1).alloc O)).row 0 (by omega)
    rw [E0.out] at this; exact this
  have HP : Hid (∀ O w8, (w1.alloc O).grownBy w8 (Value.slice af (L 0).length cf).ownBlock → w8.cell? ⟨p, 3, none⟩ = some (.slice af (L 0).length cf) ∧ w8.frozen? ⟨p, 3, none⟩ = false) := fun O w8 hg => by
    have hA := Q1.out.out ((Out.refl w1).alloc O)
    have hs : w8.heap[p]? = _ := (hg.block p hA.lt (fun e => hA.notp (j := 0) (by omega) (by rw [E0.out]; exact e.symm))).trans hA.st
    exact ⟨by rw [cell_atL hs, ← E0.out]; rfl, frozen_atL hs 3⟩
  go_upto_region 3 with (at_builtin; refine wpList_append_lies _ rfl (.tmp 19) (.tmp 21) 26 rfl 0 30 i0 _ 1 24 Tryd.underlying26 hi hz0 hz1 hz2 rfl (by decide) (.slice af (L 0).length cf) (L 0).length (L 0) rfl (R0.out _) ⟨w1.heap.size, 0, none⟩ 1 1 [.slice a n c] rfl rfl (news_new w1 _ _ _ rfl) (by intro u hu; simp at hu; subst hu; rfl) (by decide) (by unfold maxLen; omega) (by omega) (Nat.zero_le _) _ rfl ?_; intro g8 cap8 w8 hown8 hgrow8 hg8 hlt8; obtain ⟨q8, f8⟩ := HP.out _ w8 hgrow8; have W8 := hidOf hown8; have G8 := hidOf hgrow8; have Hg8 := hidOf hg8; clear hown8 hgrow8 hg8 hlt8)
  have B8 : Hid (∀ b, (Value.slice (some ⟨g8, 0, none⟩) ((L 0).length + 1) cap8).ownBlock = some b → (r 0).ownBlock = some b ∨ w1.heap.size ≤ b) := fun b hb => by
    simp [Value.ownBlock] at hb
    subst hb
    rcases Hg8.out with h | h
    · exact .inl (by rw [E0.out]; exact h)
    · right; rw [h, size_alloc]; omega
  have hP := Q1.out.push 0 (by omega) ((Out.refl w1).alloc _) (by rw [E0.out]; exact G8.out) W8.out B8.out
  have S8 := hidOf hP.1
  have C8 := hidOf hP.2
  clear hP G8 W8 Hg8 R0 HP k2 q8 f8
  have hz : (3 : Nat) + 0 = 3 := rfl
  rw [hz] at S8 C8
  clear hz
  generalize w8.setCell ⟨p, 3, none⟩ (.slice (some ⟨g8, 0, none⟩) ((L 0).length + 1) cap8) = w4 at *
  have C4 : Hid (Chg (SOw p r) w w4) := hidOf ((C1.out.mono (fun b hb _ => .inl hb)).trans C8.out (fun b hb _ => by
    rcases hb with e | e
    · exact .inl e
    · exact .inr (.inl e)))
  have X4 : Hid (OwI 0 (.slice a n c) N w4) := hidOf (HX.out.chg C4.out (fun b hb hs => H.out.sh.sow HX.out hb hs))
  have k3 : w4.drew.cell? ⟨p, 4, none⟩ = some (.slice ah (L 1).length ch) := by
    rw [cell_atL (show w4.drew.heap[p]? = _ from S8.out.st), ← E1.out]; rfl
  have R3 : Hid (∀ wx O, Out w4 wx → (wx.alloc O).ownsRow 0 30 1 (.slice ah (L 1).length ch) (L 1).length (L 1)) := fun wx O ho => by
    have := (S8.out.out (ho.alloc O)).row 1 (by omega)
    rw [← E1.out]; exact this
  have HP3 : Hid (∀ wx O w9, Out w4 wx → (wx.alloc O).grownBy w9 (Value.slice ah (L 1).length ch).ownBlock → w9.cell? ⟨p, 4, none⟩ = some (.slice ah (L 1).length ch) ∧ w9.frozen? ⟨p, 4, none⟩ = false) := fun wx O w9 ho hg => by
    have hA := S8.out.out (ho.alloc O)
    have hs : w9.heap[p]? = _ := (hg.block p hA.lt (fun e => hA.notp (j := 1) (by omega) (by show (r 1).ownBlock = _; rw [E1.out]; exact e.symm))).trans hA.st
    exact ⟨by rw [cell_atL hs, ← E1.out]; rfl, frozen_atL hs 4⟩
  go_region_law (first | (refine step_append_lies _ rfl (.tmp 29) (.tmp 32) 26 rfl 0 30 i0 _ 1 24 Tryd.underlying26 hi hz0 hz1 hz2 rfl (by decide) (.slice ah (L 1).length ch) (L 1).length (L 1) rfl (R3.out w5 _ A5.out.2.1) ⟨w5.heap.size, 0, none⟩ 1 1 [.slice a5 n c5] rfl rfl (news_new w5 _ _ _ rfl) (by intro u hu; simp at hu; subst hu; rfl) (by decide) (by unfold maxLen; omega) (by omega) (Nat.zero_le _) _ rfl ?_; intro g9 cap9 w9 hown9 hgrow9 hg9 hlt9; obtain ⟨q9, f9⟩ := HP3.out w5 _ w9 A5.out.2.1 hgrow9; have W9 := hidOf hown9; have G9 := hidOf hgrow9; have Hg9 := hidOf hg9; clear hown9 hgrow9 hg9 hlt9) | (go_simp; go_at_call 18; refine (copyI2 _ a n c N HNl.out (X4.out.out ((Out.refl w4).drewN 1)) (by omega)).mono ?_; rintro e w5 ⟨a5, c5, rfl, hown5, ho5⟩; (try dsimp only); have A5 : Hid (OwI 0 (.slice a5 n c5) N w5 ∧ Out w4 w5 ∧ ∀ b, (Value.slice a5 n c5).ownBlock = some b → w4.heap.size ≤ b) := hidOf ⟨hown5.low (Nat.zero_le _), Out.trans ((Out.refl w4).drewN 1) ho5, fun b hb => (World.ownsRow.lt hown5 b hb).1⟩; have k35 : w5.cell? ⟨p, 4, none⟩ = some (.slice ah (L 1).length ch) := cell_later A5.out.2.1 k3; have k35a : (w5.alloc (.cells #[.slice a5 n c5] 30)).cell? ⟨p, 4, none⟩ = some (.slice ah (L 1).length ch) := cell_later ((Out.refl w5).alloc _) k35; clear hown5 ho5))
  all_goals
    have B9 : Hid (∀ b, (Value.slice (some ⟨g9, 0, none⟩) ((L 1).length + 1) cap9).ownBlock = some b → (r 1).ownBlock = some b ∨ w5.heap.size ≤ b) := fun b hb => by
      simp [Value.ownBlock] at hb
      subst hb
      rcases Hg9.out with h | h
      · exact .inl (by rw [E1.out]; exact h)
      · right; rw [h, size_alloc]; omega
    have hP := (S8.out.out A5.out.2.1).push 1 (by omega) ((Out.refl w5).alloc _) (by show World.grownBy _ _ (r 1).ownBlock; rw [E1.out]; exact G9.out) W9.out B9.out
    have S9 := hidOf hP.1
    have C9 := hidOf hP.2
    clear hP q9 f9 k35 k35a k3 G9 W9 Hg9
    have hz : (3 : Nat) + 1 = 4 := rfl
    rw [hz] at S9 C9
    clear hz
    generalize w9.setCell ⟨p, 4, none⟩ (.slice (some ⟨g9, 0, none⟩) ((L 1).length + 1) cap9) = w7 at *
    have hle : Hid (w.heap.size ≤ w1.heap.size ∧ w.heap.size ≤ w5.heap.size) := hidOf ⟨C1.out.size, Nat.le_trans C4.out.size A5.out.2.1.size⟩
    have C7 : Hid (Chg (SOw p r) w w7) := hidOf ((C4.out.then_out A5.out.2.1).trans C9.out (fun b hb _ => by
      rcases hb with e | e
      · exact .inl e
      · exact .inr (.inr e)))
    have U7 : Hid (OwI 0 (.slice a5 n c5) N w7) := hidOf (A5.out.1.chg C9.out (fun b hb hs => by
      have hq := S8.out.out A5.out.2.1
      obtain ⟨_, cs, hc⟩ := own_blkQ A5.out.1 hb
      rcases hs with e | e
      · have := hq.st; rw [← e, hc] at this; simp at this
      · exact own_kind (hq.row 1 (by omega)) hc (by decide) e))
    have QI7 := hidOf (H.out.take HNw.out (by rw [HNl.out]; exact hN) HX.out U7.out S9.out rfl rfl rfl rfl C7.out (fun b hb => (B8.out b hb).imp id (fun h => Nat.le_trans hle.out.1 h)) (fun b hb => (B9.out b hb).imp id (fun h => Nat.le_trans hle.out.2 h)) rfl rfl)
    have k2 : w7.cell? ⟨p, 3, none⟩ = some (.slice (some ⟨g8, 0, none⟩) ((L 0).length + 1) cap8) := by rw [cell_atL S9.out.st]; rfl
    have FIN : Hid (∀ w', Chg (QSQ p (upd (upd r 0 (.slice (some ⟨g8, 0, none⟩) ((L 0).length + 1) cap8)) 1 (.slice (some ⟨g9, 0, none⟩) ((L 1).length + 1) cap9)) (L 0 ++ [.slice a n c])) w7 w' → Chg (fun b => QSQ p r (L 0) b ∨ (Value.slice a n c).ownBlock = some b) w w') := hidOf (fun w' c => by
      refine (C7.out.mono (fun b hb _ => ?_)).trans c (fun b hb hlt => ?_)
      · rcases hb with e | e | e
        · exact .inl (.inl e)
        · exact .inl (.inr (.inl ⟨0, by omega, e⟩))
        · exact .inl (.inr (.inl ⟨1, by omega, e⟩))
      · rcases hb with e | ⟨j, hj, e⟩ | ⟨y, hy, e⟩
        · exact .inl (.inl e)
        · obtain rfl | rfl | rfl | rfl : j = 0 ∨ j = 1 ∨ j = 2 ∨ j = 3 := by omega
          · rcases B8.out b e with e | e
            · exact .inl (.inr (.inl ⟨0, by omega, e⟩))
            · have := hle.out.1; omega
          · rcases B9.out b e with e | e
            · exact .inl (.inr (.inl ⟨1, by omega, e⟩))
            · have := hle.out.2; omega
          · exact .inl (.inr (.inl ⟨2, by omega, e⟩))
          · exact .inl (.inr (.inl ⟨3, by omega, e⟩))
        · rcases List.mem_append.1 hy with hy | hy
          · exact .inl (.inr (.inr ⟨y, hy, e⟩))
          · rw [List.mem_singleton.1 hy] at e; exact .inr e)
    clear S8 S9 C8 C9 X4 U7 A5 B8 B9 R3 HP3 C1 C4
    by_cases h2 : (L 0).length = 2
    · have hge : (3 : Int) ≤ (((L 0).length + 1 : Nat) : Int) := by omega
      have hge2 : (3 : Int) ≤ ((L 0).length : Int) + 1 := by omega
      have HL3 : Hid ((L 0 ++ [Value.slice a n c]).length = 3) := hidOf (by simp [h2])
      have CU := hidOf (untouchedQ_any w7 p mk (tt + n) _ _ QI7.out.sh QI7.out.wl QI7.out.pf (by show (L 0 ++ [Value.slice a n c]).length ≤ _; rw [HL3.out]; omega))
      have CW : Hid (∀ w8, Out w7 w8 → Calls Tryd.prog 20 #[.pointer (some ⟨p, 0, none⟩)] w8 fun e w' => (∃ q, e = .returned q) ∧ ∃ mk', mk ≤ mk' ∧ mk' ≤ mk + 4000000000 ∧ WrQ B w8 p (tt + n) _ _ ((L 2).length + 2 * (L 0 ++ [Value.slice a n c]).length) mk' w') := hidOf (fun w8 o => writeI_any B w8 p mk (tt + n) _ _ (QI7.out.out o) (by show 0 < (L 0 ++ [Value.slice a n c]).length; rw [HL3.out]; omega) (by show (L 0 ++ [Value.slice a n c]).length ≤ 3; rw [HL3.out]; exact Nat.le_refl _) (by show (L 2).length ≤ _; omega) m0 m1 (by omega) (by omega))
      clear h2
      go_upto_region 7 with (first | (go_at_call 19; refine CU.out.mono ?_; rintro e w8 ⟨⟨q, rfl⟩, ho8⟩; have O8 := hidOf ho8; clear ho8) | (go_at_call 20; refine (CW.out w8 O8.out).mono ?_; rintro e w10 ⟨⟨q', rfl⟩, mk', hm1, hm2, hend⟩; have HE := hidOf hend; clear hend))
      obtain ⟨r', L', h1, h2, h3, h4, h5⟩ := HE.out
      have HQ := hidOf h1
      have HC := hidOf (FIN.out _ ((Chg.of_out O8.out).trans h4 (fun b hb _ => hb)))
      have H0 : Hid ((L' 0).length ≤ 2) := hidOf (by rw [h2]; simp)
      have H2 : Hid ((L' 2).length ≤ (L 2).length + 6) := hidOf (by rw [h3, HL3.out]; omega)
      have HPV : Hid (∀ y b, (y ∈ L' 0 ∨ y ∈ L' 2 ∨ y ∈ L' 3) → y.ownBlock = some b → w.heap.size ≤ b ∨ (∃ z, (z ∈ L 0 ∨ z ∈ L 2 ∨ z ∈ L 3) ∧ z.ownBlock = some b) ∨ (Value.slice a n c).ownBlock = some b) := hidOf (fun y b hy hb => by
        rw [h2] at hy
        rcases hy with hy | hy
        · cases hy
        · rcases h5 y b hy hb with e | ⟨j, hj, X, z, hX, hz, hzb⟩ | ⟨z, hz, hzb⟩
          · exact .inl (Nat.le_trans C7.out.size (Nat.le_trans O8.out.size e))
          · rcases hj with rfl | rfl
            · have e := own_uniq hX ((QI7.out.out O8.out).sh.row 2 (by omega))
              rw [e] at hz
              exact .inr (.inl ⟨z, .inr (.inl hz), hzb⟩)
            · have e := own_uniq hX ((QI7.out.out O8.out).sh.row 3 (by omega))
              rw [e] at hz
              exact .inr (.inl ⟨z, .inr (.inr hz), hzb⟩)
          · rcases List.mem_append.1 hz with hz | hz
            · exact .inr (.inl ⟨z, .inl hz, hzb⟩)
            · rw [List.mem_singleton.1 hz] at hzb; exact .inr (.inr hzb))
      have CH := hidOf (h1.holds (by have := H0.out; omega) (by have := H2.out; omega))
      clear h1 h2 h3 h4 h5 HE
      go_wp2_with (go_at_call 21; refine CH.out.mono ?_; rintro e w11 ⟨rfl, ho11⟩; have O11 := hidOf ho11; clear ho11)
      go_ret
      exact ⟨rfl, mk', r', L', hm1, hm2, HQ.out.out O11.out, H0.out, H2.out, HC.out.then_out O11.out, HPV.out⟩
    · have hge : ¬ (3 : Int) ≤ (((L 0).length + 1 : Nat) : Int) := by omega
      have hge2 : ¬ (3 : Int) ≤ ((L 0).length : Int) + 1 := by omega
      have Hl2 : Hid ((L 0 ++ [Value.slice a n c]).length ≤ 2) := hidOf (by simp; omega)
      have CH := hidOf (QI7.out.holds (by show (L 0 ++ [Value.slice a n c]).length ≤ _; have := Hl2.out; omega) (by show (L 2).length ≤ _; omega))
      clear h2
      go_wp2_with (go_at_call 21; refine CH.out.mono ?_; rintro e w11 ⟨rfl, ho11⟩; have O11 := hidOf ho11; clear ho11)
      go_ret
      refine ⟨rfl, mk, _, _, by omega, by omega, QI7.out.out O11.out, Hl2.out, Nat.le_add_right _ _, (FIN.out _ (Chg.refl _ _)).then_out O11.out, fun y b hy hb => ?_⟩
      rcases hy with hy | hy | hy
      · rcases List.mem_append.1 hy with hy | hy
        · exact .inr (.inl ⟨y, .inl hy, hb⟩)
        · rw [List.mem_singleton.1 hy] at hb; exact .inr (.inr hb)
      · exact .inr (.inl ⟨y, .inr (.inl hy), hb⟩)
      · exact .inr (.inl ⟨y, .inr (.inr hy), hb⟩)
end Go.Proofs.YtgephenkbbelcaaDoor
