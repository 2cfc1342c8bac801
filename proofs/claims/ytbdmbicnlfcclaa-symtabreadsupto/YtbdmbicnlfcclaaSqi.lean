import Derived.Test.YtbdmbicnlfcclaaSqh
import Derived.Deep.RegionLaw
namespace Go.Proofs.Ytbdmbicnlfcclaa
open Go.RowKit
set_option linter.unusedVariables false
set_option linter.unusedSimpArgs false
theorem QF.tot {w : World} {p : Nat} {tt : Int} {r : Nat → Value} {L : Nat → List Value} (h : QF w p tt r L) (t' : Int) : QF (w.setCell ⟨p, 0, none⟩ (.int .i64 t')) p t' r L := by
  have c : Chg (fun k => k = p) w (w.setCell ⟨p, 0, none⟩ (.int .i64 t')) := Chg.setCell (S := fun k => k = p) (Chg.refl _ w) (p := ⟨p, 0, none⟩) rfl _
  refine ⟨?_, fun i hi => owns_chg (h.row i hi) (fun k hk e => own_kind (h.row i hi) h.st (by decide) (by rw [hk, e])) c, h.sep⟩
  rw [set_atL h.st]; rfl
/-- the blocks that an Own turns ahead of its writing -/
def SOw (p : Nat) (r : Nat → Value) (b : Nat) : Prop := b = p ∨ (r 0).ownBlock = some b ∨ (r 1).ownBlock = some b
theorem QF.sow {w : World} {p : Nat} {tt : Int} {r : Nat → Value} {L : Nat → List Value} (h : QF w p tt r L) {v : Value} {N : List Sy} {B : Nat} (hv : OwS B v N w) {b : Nat} (hb : v.ownBlock = some b) : ¬ SOw p r b := fun hs => by
  obtain ⟨_, cs, hc⟩ := own_blkQ hv hb
  rcases hs with e | e | e
  · have := h.st; rw [← e, hc] at this; simp at this
  · exact own_kind (h.row 0 (by omega)) hc (by decide) e
  · exact own_kind (h.row 1 (by omega)) hc (by decide) e
/-- a list that lies apart from all that the queue knows -/
structure New6 (B : Nat) (L : Nat → List Value) (x : Value) : Prop where
  lb : ∀ b, x.ownBlock = some b → B ≤ b
  f : ∀ (j : Nat) y b, (L 0)[j]? = some y → x.ownBlock = some b → ¬ y.ownBlock = some b
  k : ∀ (l : Nat) y b, (L 2)[l]? = some y ∨ (L 3)[l]? = some y → x.ownBlock = some b → ¬ y.ownBlock = some b
theorem get_snoc {α : Type} {A : List α} {x y : α} {j : Nat} (h : (A ++ [x])[j]? = some y) : (j < A.length ∧ A[j]? = some y) ∨ (j = A.length ∧ y = x) := by
  by_cases hj : j < A.length
  · rw [List.getElem?_append_left hj] at h; exact .inl ⟨hj, h⟩
  · have hl := (List.getElem?_eq_some_iff.1 h).1
    rw [List.length_append, List.length_singleton] at hl
    have he : j = A.length := by omega
    subst he
    rw [List.getElem?_append_right (Nat.le_refl _), Nat.sub_self] at h
    simp at h
    exact .inr ⟨rfl, h.symm⟩
/-- a list and its copy are taken -/
theorem QI.take {B : Nat} {w w' : World} {p : Nat} {tt t' : Int} {r r' : Nat → Value} {L L' : Nat → List Value} (h : QI B w p tt r L) {x u : Value} {N : List Sy} (hn : New6 B L x) (hN : N.length ≤ 100000000000) (hx : OwS 0 x N w) (hu : OwS 0 u N w') (hs : QF w' p t' r' L') (l0 : L' 0 = L 0 ++ [x]) (l1 : L' 1 = L 1 ++ [u]) (l2 : L' 2 = L 2) (l3 : L' 3 = L 3) (c : Chg (SOw p r) w w')
    (r0 : ∀ b, (r' 0).ownBlock = some b → (r 0).ownBlock = some b ∨ w.heap.size ≤ b) (r1 : ∀ b, (r' 1).ownBlock = some b → (r 1).ownBlock = some b ∨ w.heap.size ≤ b) (r2 : r' 2 = r 2) (r3 : r' 3 = r 3) : QI B w' p t' r' L' := by
  have kp : ∀ B v N, OwS B v N w → OwS B v N w' := fun B v N hv => hv.chg c (fun b hb hs => h.sh.sow hv hb hs)
  have hpB : B ≤ p := h.lb p (.inl rfl)
  have hpw := h.sh.lt
  obtain ⟨ax, cx, ex⟩ := own_form hx
  obtain ⟨au, cu, eu⟩ := own_form hu
  have kpp : ∀ X Y, PrQ w X Y → PrQ w' X Y := fun X Y hp i x y hx hy => by
    obtain ⟨N, a1, c1, a2, c2, e1, e2, o1, o2, hb⟩ := hp i x y hx hy
    exact ⟨N, a1, c1, a2, c2, e1, e2, kp _ _ _ o1, kp _ _ _ o2, hb⟩
  refine ⟨hs, by rw [l0, l1]; simp [h.wl], by rw [l2, l3]; exact h.kl, ?_, by rw [l2, l3]; exact kpp _ _ h.pk, ?_, ?_, ?_, ?_⟩
  · rw [l0, l1]
    intro i y z hy hz
    rcases get_snoc hy with ⟨hi, hy⟩ | ⟨hi, rfl⟩
    · rcases get_snoc hz with ⟨_, hz⟩ | ⟨hi2, _⟩
      · exact kpp _ _ h.pf i y z hy hz
      · have := h.wl; omega
    · rcases get_snoc hz with ⟨hi2, _⟩ | ⟨_, rfl⟩
      · have := h.wl; omega
      · exact ⟨N, ax, cx, au, cu, ex, eu, kp _ _ _ hx, hu, by omega⟩
  · rw [l0]
    intro y hy
    rcases List.mem_append.1 hy with hy | hy
    · obtain ⟨M, h1, h2⟩ := h.bl y hy
      exact ⟨M, h1, kp _ _ _ h2⟩
    · rw [List.mem_singleton.1 hy]
      exact ⟨N, hN, kp _ _ _ hx⟩
  · rw [l0]
    intro i j y z hy hz hij b hb hzb
    rcases get_snoc hy with ⟨_, hy'⟩ | ⟨hi, e1⟩
    · rcases get_snoc hz with ⟨_, hz'⟩ | ⟨_, e2⟩
      · exact h.ds i j y z hy' hz' hij b hb hzb
      · exact hn.f i y b hy' (by rw [← e2]; exact hzb) hb
    · rcases get_snoc hz with ⟨_, hz'⟩ | ⟨hj, _⟩
      · exact hn.f j z b hz' (by rw [← e1]; exact hb) hzb
      · omega
  · rw [l0, l2, l3]
    intro l y b hy hb j z hz
    rcases get_snoc hz with ⟨_, hz⟩ | ⟨_, rfl⟩
    · exact h.ap l y b hy hb j z hz
    · exact fun e => hn.k l y b hy e hb
  · intro b hb
    rcases hb with e | ⟨j, hj, e⟩ | ⟨y, hy, e⟩
    · rw [e]; exact hpB
    · obtain rfl | rfl | rfl | rfl : j = 0 ∨ j = 1 ∨ j = 2 ∨ j = 3 := by omega
      · rcases r0 b e with e | e
        · exact h.lb b (.inr (.inl ⟨0, by omega, e⟩))
        · omega
      · rcases r1 b e with e | e
        · exact h.lb b (.inr (.inl ⟨1, by omega, e⟩))
        · omega
      · rw [r2] at e; exact h.lb b (.inr (.inl ⟨2, by omega, e⟩))
      · rw [r3] at e; exact h.lb b (.inr (.inl ⟨3, by omega, e⟩))
    · rw [l0] at hy
      rcases List.mem_append.1 hy with hy | hy
      · exact h.lb b (.inr (.inr ⟨y, hy, e⟩))
      · rw [List.mem_singleton.1 hy] at e; exact hn.lb b e
/-- a copy is new -/
theorem App6.copied2 {w wA w' : World} {g : Nat} {v' : Value} {zs : List Sy} (h : App6 wA w' (.slice (some ⟨g, 0, none⟩) 0 0) v' [] zs) (o : Out w wA) (hg : w.heap.size ≤ g) : OwS 0 v' zs w' ∧ Out w w' ∧ ∀ b, v'.ownBlock = some b → w.heap.size ≤ b := by
  refine ⟨by simpa using h.own, Chg.out h.chg o (fun k hk => ?_), fun b hb => ?_⟩
  · simp [Value.ownBlock] at hk; omega
  · rcases h.blk b hb with e | e
    · simp [Value.ownBlock] at e; omega
    · have := o.size; omega
/-- what Own leaves behind -/
def OwnQ (B : Nat) (w : World) (p : Nat) (t' : Int) (r : Nat → Value) (L : Nat → List Value) (x : Value) (w' : World) : Prop :=
  ∃ r' L', QI B w' p t' r' L' ∧ (L' 0).length ≤ 2 ∧ (L' 2).length ≤ (L 2).length + 15 ∧ Chg (fun b => QSQ p r (L 0) b ∨ x.ownBlock = some b) w w'
set_option maxRecDepth 20000 in
set_option maxHeartbeats 2000000 in
theorem ownQ_any (B : Nat) (w : World) (p : Nat) (tt : Int) (r : Nat → Value) (L : Nat → List Value) (h : QI B w p tt r L) (hF : (L 0).length ≤ 2) (hK : (L 2).length ≤ 500000000000) (t0 : 0 ≤ tt) (t1 : tt ≤ 800000000000000) (a : Option Addr) (n c : Nat) (N : List Sy) (hNl : N.length = n) (hN : n ≤ 100000000000) (hx : OwS 0 (.slice a n c) N w) (hnew : New6 B L (.slice a n c)) :
    Calls Try.prog 28 #[.pointer (some ⟨p, 0, none⟩), .slice a n c] w fun e w' => (∃ q, e = .returned q) ∧ OwnQ B w p (tt + n) r L (.slice a n c) w' := by
  obtain ⟨i0, hi, hz0, hz1, hz2⟩ := info_parts infoSyl
  obtain ⟨af, cf, e0⟩ := own_form (h.sh.row 0 (by omega))
  obtain ⟨ah, ch, e1⟩ := own_form (h.sh.row 1 (by omega))
  have H := hidOf h
  have HX := hidOf hx
  have HNl := hidOf hNl
  have HNw := hidOf hnew
  have E0 := hidOf e0
  have E1 := hidOf e1
  have hwl := h.wl
  have Hwl := hidOf h.wl
  have k0 : w.cell? ⟨p, 0, none⟩ = some (.int .i64 tt) := by rw [cell_atL h.sh.st]; rfl
  have f0 : w.frozen? ⟨p, 0, none⟩ = false := frozen_atL h.sh.st 0
  have Q1 := hidOf (h.sh.tot (tt + n))
  have C1 : Hid (Chg (fun b => b = p) w (w.setCell ⟨p, 0, none⟩ (.int .i64 (tt + n)))) := hidOf (Chg.setCell (S := fun k => k = p) (Chg.refl _ w) (p := ⟨p, 0, none⟩) rfl _)
  have hl1 : (L 1).length ≤ 2 := by omega
  clear h hx hNl hnew e0 e1 hwl
  go_enter Try.func28, Try.ntmps28
  go_upto_region 1 with fail
  clear k0 f0
  generalize w.setCell ⟨p, 0, none⟩ (.int .i64 (tt + n)) = w1 at *
  have k2 : w1.cell? ⟨p, 2, none⟩ = some (.slice af (L 0).length cf) := by rw [cell_atL Q1.out.st, ← E0.out]; rfl
  have R0 : Hid (∀ O, (w1.alloc O).ownsRow 0 25 1 (.slice af (L 0).length cf) (L 0).length (L 0)) := fun O => by
    have := (Q1.out.out ((Out.refl w1).alloc O)).row 0 (by omega)
    rw [E0.out] at this; exact this
  have HP : Hid (∀ O w8, (w1.alloc O).grownBy w8 (Value.slice af (L 0).length cf).ownBlock → w8.cell? ⟨p, 2, none⟩ = some (.slice af (L 0).length cf) ∧ w8.frozen? ⟨p, 2, none⟩ = false) := fun O w8 hg => by
    have hA := Q1.out.out ((Out.refl w1).alloc O)
    have hs : w8.heap[p]? = _ := (hg.block p hA.lt (fun e => hA.notp (j := 0) (by omega) (by rw [E0.out]; exact e.symm))).trans hA.st
    exact ⟨by rw [cell_atL hs, ← E0.out]; rfl, frozen_atL hs 2⟩
  go_upto_region 2 with (at_builtin; refine wpList_append_lies _ rfl (.tmp 18) (.tmp 20) 22 rfl 0 25 i0 _ 1 24 Try.underlying22 hi hz0 hz1 hz2 rfl (by decide) (.slice af (L 0).length cf) (L 0).length (L 0) rfl (R0.out _) ⟨w1.heap.size, 0, none⟩ 1 1 [.slice a n c] rfl rfl (news_new w1 _ _ _ rfl) (by intro u hu; simp at hu; subst hu; rfl) (by decide) (by unfold maxLen; omega) (by omega) (Nat.zero_le _) _ rfl ?_; intro g8 cap8 w8 hown8 hgrow8 hg8 hlt8; obtain ⟨q8, f8⟩ := HP.out _ w8 hgrow8; have W8 := hidOf hown8; have G8 := hidOf hgrow8; have Hg8 := hidOf hg8; clear hown8 hgrow8 hg8 hlt8)
  have B8 : Hid (∀ b, (Value.slice (some ⟨g8, 0, none⟩) ((L 0).length + 1) cap8).ownBlock = some b → (r 0).ownBlock = some b ∨ w1.heap.size ≤ b) := fun b hb => by
    simp [Value.ownBlock] at hb
    subst hb
    rcases Hg8.out with h | h
    · exact .inl (by rw [E0.out]; exact h)
    · right; rw [h, size_alloc]; omega
  have hP := Q1.out.push 0 (by omega) ((Out.refl w1).alloc _) (by rw [E0.out]; exact G8.out) W8.out B8.out
  have S8 := hidOf hP.1
  have C8 := hidOf hP.2
  clear hP G8 W8 Hg8 R0 HP k2 q8 f8
  have hz : (2 : Nat) + 0 = 2 := rfl
  rw [hz] at S8 C8
  clear hz
  generalize w8.setCell ⟨p, 2, none⟩ (.slice (some ⟨g8, 0, none⟩) ((L 0).length + 1) cap8) = w4 at *
  have C4 : Hid (Chg (SOw p r) w w4) := hidOf ((C1.out.mono (fun b hb _ => .inl hb)).trans C8.out (fun b hb _ => by
    rcases hb with e | e
    · exact .inl e
    · exact .inr (.inl e)))
  have X4 : Hid (OwS 0 (.slice a n c) N w4) := hidOf (HX.out.chg C4.out (fun b hb hs => H.out.sh.sow HX.out hb hs))
  have k3 : w4.drew.cell? ⟨p, 3, none⟩ = some (.slice ah (L 1).length ch) := by
    rw [cell_atL (show w4.drew.heap[p]? = _ from S8.out.st), ← E1.out]; rfl
  have k3e : (w4.alloc (.cells #[] 57)).cell? ⟨p, 3, none⟩ = some (.slice ah (L 1).length ch) := cell_later ((Out.refl w4).alloc _) k3
  have R3 : Hid (∀ wx O, Out w4 wx → (wx.alloc O).ownsRow 0 25 1 (.slice ah (L 1).length ch) (L 1).length (L 1)) := fun wx O ho => by
    have := (S8.out.out (ho.alloc O)).row 1 (by omega)
    rw [← E1.out]; exact this
  have HP3 : Hid (∀ wx O w9, Out w4 wx → (wx.alloc O).grownBy w9 (Value.slice ah (L 1).length ch).ownBlock → w9.cell? ⟨p, 3, none⟩ = some (.slice ah (L 1).length ch) ∧ w9.frozen? ⟨p, 3, none⟩ = false) := fun wx O w9 ho hg => by
    have hA := S8.out.out (ho.alloc O)
    have hs : w9.heap[p]? = _ := (hg.block p hA.lt (fun e => hA.notp (j := 1) (by omega) (by show (r 1).ownBlock = _; rw [E1.out]; exact e.symm))).trans hA.st
    exact ⟨by rw [cell_atL hs, ← E1.out]; rfl, frozen_atL hs 3⟩
  go_region_law (first | (refine step_copy6 rfl (.tmp 29) (.tmp 30) rfl _ rfl (OwS.out (void6 w4) ((Out.refl _).drew)) a N n c HNl.out rfl (X4.out.out (((Out.refl w4).alloc _).drew)) (by omega) ?_; intro v5 w5 ha; obtain ⟨a5, c5, rfl⟩ := ha.form0 HNl.out; have A5 := hidOf (ha.copied2 (w := w4) (((Out.refl w4).alloc _).drew) (Nat.le_refl _)); have k35 : w5.cell? ⟨p, 3, none⟩ = some (.slice ah (L 1).length ch) := cell_later A5.out.2.1 k3; have k35a : (w5.alloc (.cells #[.slice a5 n c5] 25)).cell? ⟨p, 3, none⟩ = some (.slice ah (L 1).length ch) := cell_later ((Out.refl w5).alloc _) k35; clear ha) | (refine step_append_lies _ rfl (.tmp 28) (.tmp 32) 22 rfl 0 25 i0 _ 1 24 Try.underlying22 hi hz0 hz1 hz2 rfl (by decide) (.slice ah (L 1).length ch) (L 1).length (L 1) rfl (R3.out w5 _ A5.out.2.1) ⟨w5.heap.size, 0, none⟩ 1 1 [.slice a5 n c5] rfl rfl (news_new w5 _ _ _ rfl) (by intro u hu; simp at hu; subst hu; rfl) (by decide) (by unfold maxLen; omega) (by omega) (Nat.zero_le _) _ rfl ?_; intro g9 cap9 w9 hown9 hgrow9 hg9 hlt9; obtain ⟨q9, f9⟩ := HP3.out w5 _ w9 A5.out.2.1 hgrow9; have W9 := hidOf hown9; have G9 := hidOf hgrow9; have Hg9 := hidOf hg9; clear hown9 hgrow9 hg9 hlt9))
  all_goals
    have B9 : Hid (∀ b, (Value.slice (some ⟨g9, 0, none⟩) ((L 1).length + 1) cap9).ownBlock = some b → (r 1).ownBlock = some b ∨ w5.heap.size ≤ b) := fun b hb => by
      simp [Value.ownBlock] at hb
      subst hb
      rcases Hg9.out with h | h
      · exact .inl (by rw [E1.out]; exact h)
      · right; rw [h, size_alloc]; omega
    have hP := (S8.out.out A5.out.2.1).push 1 (by omega) ((Out.refl w5).alloc _) (by show World.grownBy _ _ (r 1).ownBlock; rw [E1.out]; exact G9.out) W9.out B9.out
    have S9 := hidOf hP.1
    have C9 := hidOf hP.2
    clear hP q9 f9 k35 k35a k3 k3e G9 W9 Hg9
    have hz : (2 : Nat) + 1 = 3 := rfl
    rw [hz] at S9 C9
    clear hz
    generalize w9.setCell ⟨p, 3, none⟩ (.slice (some ⟨g9, 0, none⟩) ((L 1).length + 1) cap9) = w7 at *
    have hle : Hid (w.heap.size ≤ w1.heap.size ∧ w.heap.size ≤ w5.heap.size) := hidOf ⟨C1.out.size, Nat.le_trans C4.out.size A5.out.2.1.size⟩
    have C7 : Hid (Chg (SOw p r) w w7) := hidOf ((C4.out.then_out A5.out.2.1).trans C9.out (fun b hb _ => by
      rcases hb with e | e
      · exact .inl e
      · exact .inr (.inr e)))
    have U7 : Hid (OwS 0 (.slice a5 n c5) N w7) := hidOf (A5.out.1.chg C9.out (fun b hb hs => by
      have hq := S8.out.out A5.out.2.1
      obtain ⟨_, cs, hc⟩ := own_blkQ A5.out.1 hb
      rcases hs with e | e
      · have := hq.st; rw [← e, hc] at this; simp at this
      · exact own_kind (hq.row 1 (by omega)) hc (by decide) e))
    have QI7 := hidOf (H.out.take HNw.out (by rw [HNl.out]; exact hN) HX.out U7.out S9.out rfl rfl rfl rfl C7.out (fun b hb => (B8.out b hb).imp id (fun h => Nat.le_trans hle.out.1 h)) (fun b hb => (B9.out b hb).imp id (fun h => Nat.le_trans hle.out.2 h)) rfl rfl)
    have k2 : w7.cell? ⟨p, 2, none⟩ = some (.slice (some ⟨g8, 0, none⟩) ((L 0).length + 1) cap8) := by rw [cell_atL S9.out.st]; rfl
    have FIN : Hid (∀ w', Chg (QSQ p (upd (upd r 0 (.slice (some ⟨g8, 0, none⟩) ((L 0).length + 1) cap8)) 1 (.slice (some ⟨g9, 0, none⟩) ((L 1).length + 1) cap9)) (L 0 ++ [.slice a n c])) w7 w' → Chg (fun b => QSQ p r (L 0) b ∨ (Value.slice a n c).ownBlock = some b) w w') := hidOf (fun w' c => by
      refine (C7.out.mono (fun b hb _ => ?_)).trans c (fun b hb hlt => ?_)
      · rcases hb with e | e | e
        · exact .inl (.inl e)
        · exact .inl (.inr (.inl ⟨0, by omega, e⟩))
        · exact .inl (.inr (.inl ⟨1, by omega, e⟩))
      · rcases hb with e | ⟨j, hj, e⟩ | ⟨y, hy, e⟩
        · exact .inl (.inl e)
        · obtain rfl | rfl | rfl | rfl : j = 0 ∨ j = 1 ∨ j = 2 ∨ j = 3 := by omega
          · rcases B8.out b e with e | e
            · exact .inl (.inr (.inl ⟨0, by omega, e⟩))
            · have := hle.out.1; omega
          · rcases B9.out b e with e | e
            · exact .inl (.inr (.inl ⟨1, by omega, e⟩))
            · have := hle.out.2; omega
          · exact .inl (.inr (.inl ⟨2, by omega, e⟩))
          · exact .inl (.inr (.inl ⟨3, by omega, e⟩))
        · rcases List.mem_append.1 hy with hy | hy
          · exact .inl (.inr (.inr ⟨y, hy, e⟩))
          · rw [List.mem_singleton.1 hy] at e; exact .inr e)
    clear S8 S9 C8 C9 X4 U7 A5 B8 B9 R3 HP3 C1 C4
    by_cases h2 : (L 0).length = 2
    · have hge : (3 : Int) ≤ (((L 0).length + 1 : Nat) : Int) := by omega
      have hge2 : (3 : Int) ≤ ((L 0).length : Int) + 1 := by omega
      have HL3 : Hid ((L 0 ++ [Value.slice a n c]).length = 3) := hidOf (by simp [h2])
      have CW := hidOf (writeQ_any B w7 p (tt + n) _ _ QI7.out (by show (L 0 ++ [Value.slice a n c]).length ≤ 3; rw [HL3.out]; exact Nat.le_refl _) (by show (L 2).length ≤ _; exact hK) (by omega) (by omega))
      clear h2
      go_wp2_with (go_at_call 43; refine CW.out.mono ?_; rintro e w' ⟨⟨q, rfl⟩, hend⟩; have HE := hidOf hend; clear hend)
      go_end0
      obtain ⟨r', L', h1, h2, h3, h4⟩ := HE.out
      refine ⟨⟨_, rfl⟩, r', L', h1, by rw [h2]; simp, ?_, FIN.out _ h4⟩
      have e5 : (L' 2).length = (L 2).length + 5 * (L 0 ++ [Value.slice a n c]).length := h3
      rw [e5, HL3.out]
      exact Nat.le_refl _
    · have hge : ¬ (3 : Int) ≤ (((L 0).length + 1 : Nat) : Int) := by omega
      have hge2 : ¬ (3 : Int) ≤ ((L 0).length : Int) + 1 := by omega
      have Hl2 : Hid ((L 0 ++ [Value.slice a n c]).length ≤ 2) := hidOf (by simp; omega)
      clear h2
      go_wp2
      go_end0
      exact ⟨⟨_, rfl⟩, _, _, QI7.out, Hl2.out, Nat.le_add_right _ _, FIN.out _ (Chg.refl _ _)⟩
end Go.Proofs.Ytbdmbicnlfcclaa
