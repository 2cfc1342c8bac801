import Derived.Test.YtcomhlimgocoaaaGreatDoorGf02
import Derived.Deep.RegionLaw
import Derived.Test.YtcomhlimgocoaaaGreatDoorGc38
import Derived.BigQuiet
import Derived.Deep.QuietTactic
import Derived.Test.YtcomhlimgocoaaaGreatDoorGc39
namespace Go.Proofs.YtcomhlimgocoaaaGreatDoor
open Go.RowKit
set_option linter.unusedVariables false
set_option linter.unusedSimpArgs false
theorem QF.tot {w : World} {p : Nat} {tt : Int} {r : Nat → Value} {L : Nat → List Value} (h : QF w p tt r L) (t' : Int) : QF (w.setCell ⟨p, 0, none⟩ (.int .i64 t')) p t' r L := by
  have c : Chg (fun k => k = p) w (w.setCell ⟨p, 0, none⟩ (.int .i64 t')) := Chg.setCell (S := fun k => k = p) (Chg.refl _ w) (p := ⟨p, 0, none⟩) rfl _
  refine ⟨?_, fun i hi => owns_chg (h.row i hi) (fun k hk e => own_kind (h.row i hi) h.st (by decide) (by rw [hk, e])) c, h.sep⟩
  rw [set_atL h.st]; rfl
/-- the blocks that an Own turns ahead of its writing -/
def SOw (p : Nat) (r : Nat → Value) (b : Nat) : Prop := b = p ∨ (r 0).ownBlock = some b ∨ (r 1).ownBlock = some b
theorem QF.sow {w : World} {p : Nat} {tt : Int} {r : Nat → Value} {L : Nat → List Value} (h : QF w p tt r L) {v : Value} {N : List (List UInt8)} {B : Nat} (hv : OwT B v N w) {b : Nat} (hb : v.ownBlock = some b) : ¬ SOw p r b := fun hs => by
  obtain ⟨_, cs, hc⟩ := own_blkQ hv hb
  rcases hs with e | e | e
  · have := h.st; rw [← e, hc] at this; simp at this
  · exact own_kind (h.row 0 (by omega)) hc (by decide) e
  · exact own_kind (h.row 1 (by omega)) hc (by decide) e
/-- a list that lies apart from all that the queue knows -/
structure New6 (B : Nat) (L : Nat → List Value) (x : Value) : Prop where
  lb : ∀ b, x.ownBlock = some b → B ≤ b
  f : ∀ (j : Nat) y b, (L 0)[j]? = some y → x.ownBlock = some b → ¬ y.ownBlock = some b
  k : ∀ (l : Nat) y b, (L 2)[l]? = some y ∨ (L 3)[l]? = some y → x.ownBlock = some b → ¬ y.ownBlock = some b
theorem get_snoc {α : Type} {A : List α} {x y : α} {j : Nat} (h : (A ++ [x])[j]? = some y) : (j < A.length ∧ A[j]? = some y) ∨ (j = A.length ∧ y = x) := by
  by_cases hj : j < A.length
  · rw [List.getElem?_append_left hj] at h; exact .inl ⟨hj, h⟩
  · have hl := (List.getElem?_eq_some_iff.1 h).1
    rw [List.length_append, List.length_singleton] at hl
    have he : j = A.length := by omega
    subst he
    rw [List.getElem?_append_right (Nat.le_refl _), Nat.sub_self] at h
    simp at h
    exact .inr ⟨rfl, h.symm⟩
/-- a list and its copy are taken -/
theorem QI.take {B : Nat} {w w' : World} {p : Nat} {tt t' : Int} {r r' : Nat → Value} {L L' : Nat → List Value} (h : QI B w p tt r L) {x u : Value} {N : List (List UInt8)} (hn : New6 B L x) (hN : N.length ≤ 100000000000) (hx : OwT 0 x N w) (hu : OwT 0 u N w') (hs : QF w' p t' r' L') (l0 : L' 0 = L 0 ++ [x]) (l1 : L' 1 = L 1 ++ [u]) (l2 : L' 2 = L 2) (l3 : L' 3 = L 3) (c : Chg (SOw p r) w w')
    (r0 : ∀ b, (r' 0).ownBlock = some b → (r 0).ownBlock = some b ∨ w.heap.size ≤ b) (r1 : ∀ b, (r' 1).ownBlock = some b → (r 1).ownBlock = some b ∨ w.heap.size ≤ b) (r2 : r' 2 = r 2) (r3 : r' 3 = r 3) : QI B w' p t' r' L' := by
  have kp : ∀ B v N, OwT B v N w → OwT B v N w' := fun B v N hv => hv.chg c (fun b hb hs => h.sh.sow hv hb hs)
  have hpB : B ≤ p := h.lb p (.inl rfl)
  have hpw := h.sh.lt
  obtain ⟨ax, cx, ex⟩ := own_form hx
  obtain ⟨au, cu, eu⟩ := own_form hu
  have kpp : ∀ X Y, PrQ w X Y → PrQ w' X Y := fun X Y hp i x y hx hy => by
    obtain ⟨N, a1, c1, a2, c2, e1, e2, o1, o2, hb⟩ := hp i x y hx hy
    exact ⟨N, a1, c1, a2, c2, e1, e2, kp _ _ _ o1, kp _ _ _ o2, hb⟩
  refine ⟨hs, by rw [l0, l1]; simp [h.wl], by rw [l2, l3]; exact h.kl, ?_, by rw [l2, l3]; exact kpp _ _ h.pk, ?_, ?_, ?_, ?_⟩
  · rw [l0, l1]
    intro i y z hy hz
    rcases get_snoc hy with ⟨hi, hy⟩ | ⟨hi, rfl⟩
    · rcases get_snoc hz with ⟨_, hz⟩ | ⟨hi2, _⟩
      · exact kpp _ _ h.pf i y z hy hz
      · have := h.wl; omega
    · rcases get_snoc hz with ⟨hi2, _⟩ | ⟨_, rfl⟩
      · have := h.wl; omega
      · exact ⟨N, ax, cx, au, cu, ex, eu, kp _ _ _ hx, hu, by omega⟩
  · rw [l0]
    intro y hy
    rcases List.mem_append.1 hy with hy | hy
    · obtain ⟨M, h1, h2⟩ := h.bl y hy
      exact ⟨M, h1, kp _ _ _ h2⟩
    · rw [List.mem_singleton.1 hy]
      exact ⟨N, hN, kp _ _ _ hx⟩
  · rw [l0]
    intro i j y z hy hz hij b hb hzb
    rcases get_snoc hy with ⟨_, hy'⟩ | ⟨hi, e1⟩
    · rcases get_snoc hz with ⟨_, hz'⟩ | ⟨_, e2⟩
      · exact h.ds i j y z hy' hz' hij b hb hzb
      · exact hn.f i y b hy' (by rw [← e2]; exact hzb) hb
    · rcases get_snoc hz with ⟨_, hz'⟩ | ⟨hj, _⟩
      · exact hn.f j z b hz' (by rw [← e1]; exact hb) hzb
      · omega
  · rw [l0, l2, l3]
    intro l y b hy hb j z hz
    rcases get_snoc hz with ⟨_, hz⟩ | ⟨_, rfl⟩
    · exact h.ap l y b hy hb j z hz
    · exact fun e => hn.k l y b hy e hb
  · intro b hb
    rcases hb with e | ⟨j, hj, e⟩ | ⟨y, hy, e⟩
    · rw [e]; exact hpB
    · obtain rfl | rfl | rfl | rfl : j = 0 ∨ j = 1 ∨ j = 2 ∨ j = 3 := by omega
      · rcases r0 b e with e | e
        · exact h.lb b (.inr (.inl ⟨0, by omega, e⟩))
        · omega
      · rcases r1 b e with e | e
        · exact h.lb b (.inr (.inl ⟨1, by omega, e⟩))
        · omega
      · rw [r2] at e; exact h.lb b (.inr (.inl ⟨2, by omega, e⟩))
      · rw [r3] at e; exact h.lb b (.inr (.inl ⟨3, by omega, e⟩))
    · rw [l0] at hy
      rcases List.mem_append.1 hy with hy | hy
      · exact h.lb b (.inr (.inr ⟨y, hy, e⟩))
      · rw [List.mem_singleton.1 hy] at e; exact hn.lb b e
/-- a copy is new -/
theorem App6.copied2 {w wA w' : World} {g : Nat} {v' : Value} {zs : List (List UInt8)} (h : App6 wA w' (.slice (some ⟨g, 0, none⟩) 0 0) v' [] zs) (o : Out w wA) (hg : w.heap.size ≤ g) : OwT 0 v' zs w' ∧ Out w w' ∧ ∀ b, v'.ownBlock = some b → w.heap.size ≤ b := by
  refine ⟨by simpa using h.own, Chg.out h.chg o (fun k hk => ?_), fun b hb => ?_⟩
  · simp [Value.ownBlock] at hk; omega
  · rcases h.blk b hb with e | e
    · simp [Value.ownBlock] at e; omega
    · have := o.size; omega
/-- what Own leaves behind -/
def OwnQ (B : Nat) (w : World) (p : Nat) (t' : Int) (r : Nat → Value) (L : Nat → List Value) (x : Value) (w' : World) : Prop :=
  ∃ r' L', QI B w' p t' r' L' ∧ (L' 0).length ≤ 2 ∧ (L' 2).length ≤ (L 2).length + 15 ∧ Chg (fun b => QSQ p r (L 0) b ∨ x.ownBlock = some b) w w'
set_option maxRecDepth 20000 in
set_option maxHeartbeats 2000000 in
theorem ownQ_any (B : Nat) (w : World) (p : Nat) (tt : Int) (r : Nat → Value) (L : Nat → List Value) (h : QI B w p tt r L) (hF : (L 0).length ≤ 2) (hK : (L 2).length ≤ 500000000000) (t0 : 0 ≤ tt) (t1 : tt ≤ 800000000000000) (a : Option Addr) (n c : Nat) (N : List (List UInt8)) (hNl : N.length = n) (hN : n ≤ 100000000000) (hx : OwT 0 (.slice a n c) N w) (hnew : New6 B L (.slice a n c)) :
    Calls Tryz.prog 16 #[.pointer (some ⟨p, 0, none⟩), .slice a n c] w fun e w' => (∃ q, e = .returned q) ∧ OwnQ B w p (tt + n) r L (.slice a n c) w' := by
  obtain ⟨i0, hi, hz0, hz1, hz2⟩ := info_parts infoSyl
  obtain ⟨af, cf, e0⟩ := own_form (h.sh.row 0 (by omega))
  obtain ⟨ah, ch, e1⟩ := own_form (h.sh.row 1 (by omega))
  have H := hidOf h
  have HX := hidOf hx
  have HNl := hidOf hNl
  have HNw := hidOf hnew
  have E0 := hidOf e0
  have E1 := hidOf e1
  have hwl := h.wl
  have Hwl := hidOf h.wl
  have k0 : w.cell? ⟨p, 0, none⟩ = some (.int .i64 tt) := by rw [cell_atL h.sh.st]; rfl
  have f0 : w.frozen? ⟨p, 0, none⟩ = false := frozen_atL h.sh.st 0
  have Q1 := hidOf (h.sh.tot (tt + n))
  have C1 : Hid (Chg (fun b => b = p) w (w.setCell ⟨p, 0, none⟩ (.int .i64 (tt + n)))) := hidOf (Chg.setCell (S := fun k => k = p) (Chg.refl _ w) (p := ⟨p, 0, none⟩) rfl _)
  have hl1 : (L 1).length ≤ 2 := by omega
  clear h hx hNl hnew e0 e1 hwl
  go_enter Tryz.func16, Tryz.ntmps16
  go_upto_region 1 with fail
  clear k0 f0
  generalize w.setCell ⟨p, 0, none⟩ (.int .i64 (tt + n)) = w1 at *
  have k2 : w1.cell? ⟨p, 2, none⟩ = some (.slice af (L 0).length cf) := by rw [cell_atL Q1.out.st, ← E0.out]; rfl
  have R0 : Hid (∀ O, (w1.alloc O).ownsRow 0 35 1 (.slice af (L 0).length cf) (L 0).length (L 0)) := fun O => by
    have := (Q1.out.out ((Out.refl w1).alloc O)).row 0 (by omega)
    rw [E0.out] at this; exact this
  have HP : Hid (∀ O w8, (w1.alloc O).grownBy w8 (Value.slice af (L 0).length cf).ownBlock → w8.cell? ⟨p, 2, none⟩ = some (.slice af (L 0).length cf) ∧ w8.frozen? ⟨p, 2, none⟩ = false) := fun O w8 hg => by
    have hA := Q1.out.out ((Out.refl w1).alloc O)
    have hs : w8.heap[p]? = _ := (hg.block p hA.lt (fun e => hA.notp (j := 0) (by omega) (by rw [E0.out]; exact e.symm))).trans hA.st
    exact ⟨by rw [cell_atL hs, ← E0.out]; rfl, frozen_atL hs 2⟩
  go_upto_region 2 with (at_builtin; refine wpList_append_lies _ rfl (.tmp 18) (.tmp 20) 43 rfl 0 35 i0 _ 1 24 Tryz.underlying43 hi hz0 hz1 hz2 rfl (by decide) (.slice af (L 0).length cf) (L 0).length (L 0) rfl (R0.out _) ⟨w1.heap.size, 0, none⟩ 1 1 [.slice a n c] rfl rfl (news_new w1 _ _ _ rfl) (by intro u hu; simp at hu; subst hu; rfl) (by decide) (by unfold maxLen; omega) (by omega) (Nat.zero_le _) _ rfl ?_; intro g8 cap8 w8 hown8 hgrow8 hg8 hlt8; obtain ⟨q8, f8⟩ := HP.out _ w8 hgrow8; have W8 := hidOf hown8; have G8 := hidOf hgrow8; have Hg8 := hidOf hg8; clear hown8 hgrow8 hg8 hlt8)
  have B8 : Hid (∀ b, (Value.slice (some ⟨g8, 0, none⟩) ((L 0).length + 1) cap8).ownBlock = some b → (r 0).ownBlock = some b ∨ w1.heap.size ≤ b) := fun b hb => by
    simp [Value.ownBlock] at hb
    subst hb
    rcases Hg8.out with h | h
    · exact .inl (by rw [E0.out]; exact h)
    · right; rw [h, size_alloc]; omega
  have hP := Q1.out.push 0 (by omega) ((Out.refl w1).alloc _) (by rw [E0.out]; exact G8.out) W8.out B8.out
  have S8 := hidOf hP.1
  have C8 := hidOf hP.2
  clear hP G8 W8 Hg8 R0 HP k2 q8 f8
  have hz : (2 : Nat) + 0 = 2 := rfl
  rw [hz] at S8 C8
  clear hz
  generalize w8.setCell ⟨p, 2, none⟩ (.slice (some ⟨g8, 0, none⟩) ((L 0).length + 1) cap8) = w4 at *
  have C4 : Hid (Chg (SOw p r) w w4) := hidOf ((C1.out.mono (fun b hb _ => .inl hb)).trans C8.out (fun b hb _ => by
    rcases hb with e | e
    · exact .inl e
    · exact .inr (.inl e)))
  have X4 : Hid (OwT 0 (.slice a n c) N w4) := hidOf (HX.out.chg C4.out (fun b hb hs => H.out.sh.sow HX.out hb hs))
  have k3 : w4.drew.cell? ⟨p, 3, none⟩ = some (.slice ah (L 1).length ch) := by
    rw [cell_atL (show w4.drew.heap[p]? = _ from S8.out.st), ← E1.out]; rfl
  have k3e : (w4.alloc (.cells #[] 9)).cell? ⟨p, 3, none⟩ = some (.slice ah (L 1).length ch) := cell_later ((Out.refl w4).alloc _) k3
  have R3 : Hid (∀ wx O, Out w4 wx → (wx.alloc O).ownsRow 0 35 1 (.slice ah (L 1).length ch) (L 1).length (L 1)) := fun wx O ho => by
    have := (S8.out.out (ho.alloc O)).row 1 (by omega)
    rw [← E1.out]; exact this
  have HP3 : Hid (∀ wx O w9, Out w4 wx → (wx.alloc O).grownBy w9 (Value.slice ah (L 1).length ch).ownBlock → w9.cell? ⟨p, 3, none⟩ = some (.slice ah (L 1).length ch) ∧ w9.frozen? ⟨p, 3, none⟩ = false) := fun wx O w9 ho hg => by
    have hA := S8.out.out (ho.alloc O)
    have hs : w9.heap[p]? = _ := (hg.block p hA.lt (fun e => hA.notp (j := 1) (by omega) (by show (r 1).ownBlock = _; rw [E1.out]; exact e.symm))).trans hA.st
    exact ⟨by rw [cell_atL hs, ← E1.out]; rfl, frozen_atL hs 3⟩
  go_region_law (first | (refine step_copy6 rfl (.tmp 29) (.tmp 30) rfl _ rfl (OwT.out (void6 w4) ((Out.refl _).drew)) a N n c HNl.out rfl (X4.out.out (((Out.refl w4).alloc _).drew)) (by omega) ?_; intro v5 w5 ha; obtain ⟨a5, c5, rfl⟩ := ha.form0 HNl.out; have A5 := hidOf (ha.copied2 (w := w4) (((Out.refl w4).alloc _).drew) (Nat.le_refl _)); have k35 : w5.cell? ⟨p, 3, none⟩ = some (.slice ah (L 1).length ch) := cell_later A5.out.2.1 k3; have k35a : (w5.alloc (.cells #[.slice a5 n c5] 35)).cell? ⟨p, 3, none⟩ = some (.slice ah (L 1).length ch) := cell_later ((Out.refl w5).alloc _) k35; clear ha) | (refine step_append_lies _ rfl (.tmp 28) (.tmp 32) 43 rfl 0 35 i0 _ 1 24 Tryz.underlying43 hi hz0 hz1 hz2 rfl (by decide) (.slice ah (L 1).length ch) (L 1).length (L 1) rfl (R3.out w5 _ A5.out.2.1) ⟨w5.heap.size, 0, none⟩ 1 1 [.slice a5 n c5] rfl rfl (news_new w5 _ _ _ rfl) (by intro u hu; simp at hu; subst hu; rfl) (by decide) (by unfold maxLen; omega) (by omega) (Nat.zero_le _) _ rfl ?_; intro g9 cap9 w9 hown9 hgrow9 hg9 hlt9; obtain ⟨q9, f9⟩ := HP3.out w5 _ w9 A5.out.2.1 hgrow9; have W9 := hidOf hown9; have G9 := hidOf hgrow9; have Hg9 := hidOf hg9; clear hown9 hgrow9 hg9 hlt9))
  all_goals
    have B9 : Hid (∀ b, (Value.slice (some ⟨g9, 0, none⟩) ((L 1).length + 1) cap9).ownBlock = some b → (r 1).ownBlock = some b ∨ w5.heap.size ≤ b) := fun b hb => by
      simp [Value.ownBlock] at hb
      subst hb
      rcases Hg9.out with h | h
      · exact .inl (by rw [E1.out]; exact h)
      · right; rw [h, size_alloc]; omega
    have hP := (S8.out.out A5.out.2.1).push 1 (by omega) ((Out.refl w5).alloc _) (by show World.grownBy _ _ (r 1).ownBlock; rw [E1.out]; exact G9.out) W9.out B9.out
    have S9 := hidOf hP.1
    have C9 := hidOf hP.2
    clear hP q9 f9 k35 k35a k3 k3e G9 W9 Hg9
    have hz : (2 : Nat) + 1 = 3 := rfl
    rw [hz] at S9 C9
    clear hz
    generalize w9.setCell ⟨p, 3, none⟩ (.slice (some ⟨g9, 0, none⟩) ((L 1).length + 1) cap9) = w7 at *
    have hle : Hid (w.heap.size ≤ w1.heap.size ∧ w.heap.size ≤ w5.heap.size) := hidOf ⟨C1.out.size, Nat.le_trans C4.out.size A5.out.2.1.size⟩
    have C7 : Hid (Chg (SOw p r) w w7) := hidOf ((C4.out.then_out A5.out.2.1).trans C9.out (fun b hb _ => by
      rcases hb with e | e
      · exact .inl e
      · exact .inr (.inr e)))
    have U7 : Hid (OwT 0 (.slice a5 n c5) N w7) := hidOf (A5.out.1.chg C9.out (fun b hb hs => by
      have hq := S8.out.out A5.out.2.1
      obtain ⟨_, cs, hc⟩ := own_blkQ A5.out.1 hb
      rcases hs with e | e
      · have := hq.st; rw [← e, hc] at this; simp at this
      · exact own_kind (hq.row 1 (by omega)) hc (by decide) e))
    have QI7 := hidOf (H.out.take HNw.out (by rw [HNl.out]; exact hN) HX.out U7.out S9.out rfl rfl rfl rfl C7.out (fun b hb => (B8.out b hb).imp id (fun h => Nat.le_trans hle.out.1 h)) (fun b hb => (B9.out b hb).imp id (fun h => Nat.le_trans hle.out.2 h)) rfl rfl)
    have k2 : w7.cell? ⟨p, 2, none⟩ = some (.slice (some ⟨g8, 0, none⟩) ((L 0).length + 1) cap8) := by rw [cell_atL S9.out.st]; rfl
    have FIN : Hid (∀ w', Chg (QSQ p (upd (upd r 0 (.slice (some ⟨g8, 0, none⟩) ((L 0).length + 1) cap8)) 1 (.slice (some ⟨g9, 0, none⟩) ((L 1).length + 1) cap9)) (L 0 ++ [.slice a n c])) w7 w' → Chg (fun b => QSQ p r (L 0) b ∨ (Value.slice a n c).ownBlock = some b) w w') := hidOf (fun w' c => by
      refine (C7.out.mono (fun b hb _ => ?_)).trans c (fun b hb hlt => ?_)
      · rcases hb with e | e | e
        · exact .inl (.inl e)
        · exact .inl (.inr (.inl ⟨0, by omega, e⟩))
        · exact .inl (.inr (.inl ⟨1, by omega, e⟩))
      · rcases hb with e | ⟨j, hj, e⟩ | ⟨y, hy, e⟩
        · exact .inl (.inl e)
        · obtain rfl | rfl | rfl | rfl : j = 0 ∨ j = 1 ∨ j = 2 ∨ j = 3 := by omega
          · rcases B8.out b e with e | e
            · exact .inl (.inr (.inl ⟨0, by omega, e⟩))
            · have := hle.out.1; omega
          · rcases B9.out b e with e | e
            · exact .inl (.inr (.inl ⟨1, by omega, e⟩))
            · have := hle.out.2; omega
          · exact .inl (.inr (.inl ⟨2, by omega, e⟩))
          · exact .inl (.inr (.inl ⟨3, by omega, e⟩))
        · rcases List.mem_append.1 hy with hy | hy
          · exact .inl (.inr (.inr ⟨y, hy, e⟩))
          · rw [List.mem_singleton.1 hy] at e; exact .inr e)
    clear S8 S9 C8 C9 X4 U7 A5 B8 B9 R3 HP3 C1 C4
    by_cases h2 : (L 0).length = 2
    · have hge : (3 : Int) ≤ (((L 0).length + 1 : Nat) : Int) := by omega
      have hge2 : (3 : Int) ≤ ((L 0).length : Int) + 1 := by omega
      have HL3 : Hid ((L 0 ++ [Value.slice a n c]).length = 3) := hidOf (by simp [h2])
      have CW := hidOf (writeQ_any B w7 p (tt + n) _ _ QI7.out (by show (L 0 ++ [Value.slice a n c]).length ≤ 3; rw [HL3.out]; exact Nat.le_refl _) (by show (L 2).length ≤ _; exact hK) (by omega) (by omega))
      clear h2
      go_wp2_with (go_at_call 45; refine CW.out.mono ?_; rintro e w' ⟨⟨q, rfl⟩, hend⟩; have HE := hidOf hend; clear hend)
      go_end0
      obtain ⟨r', L', h1, h2, h3, h4⟩ := HE.out
      refine ⟨⟨_, rfl⟩, r', L', h1, by rw [h2]; simp, ?_, FIN.out _ h4⟩
      have e5 : (L' 2).length = (L 2).length + 5 * (L 0 ++ [Value.slice a n c]).length := h3
      rw [e5, HL3.out]
      exact Nat.le_refl _
    · have hge : ¬ (3 : Int) ≤ (((L 0).length + 1 : Nat) : Int) := by omega
      have hge2 : ¬ (3 : Int) ≤ ((L 0).length : Int) + 1 := by omega
      have Hl2 : Hid ((L 0 ++ [Value.slice a n c]).length ≤ 2) := hidOf (by simp; omega)
      clear h2
      go_wp2
      go_end0
      exact ⟨⟨_, rfl⟩, _, _, QI7.out, Hl2.out, Nat.le_add_right _ _, FIN.out _ (Chg.refl _ _)⟩
end Go.Proofs.YtcomhlimgocoaaaGreatDoor
namespace Go.Proofs.YtcomhlimgocoaaaGreatDoor
open Go.RowKit
set_option linter.unusedVariables false
set_option linter.unusedSimpArgs false
/-- the picker's box at pb: its rows, what it asks for -/
structure Pa (w0 w : World) (pb : Nat) (R : List Rw) (o : Int) (W0 : List UInt8) : Prop where
  st : ∃ a c, w.heap[pb]? = some (.cells #[.slice a R.length c, .bool true, .int .i64 o, .string ⟨W0.toArray⟩] 89 (0, 0)) ∧ w.ownsRow w0.heap.size 67 5 (.slice a R.length c) R.length (rowsC R)
  pB : w0.heap.size ≤ pb
  out : Out w0 w
theorem Pa.on {w0 w w' : World} {pb : Nat} {R : List Rw} {o : Int} {W0 : List UInt8} (h : Pa w0 w pb R o W0) (k : Out w w') : Pa w0 w' pb R o W0 := by
  obtain ⟨a, c, h1, h2⟩ := h.st
  exact ⟨⟨a, c, (k.block pb (Array.getElem?_eq_some_iff.1 h1).1).trans h1, owns_chg (S := fun _ => False) h2 (fun _ _ h => h) (Chg.of_out k)⟩, h.pB, h.out.trans k⟩
/-- a row more -/
theorem Pa.push {w0 w wA w8 : World} {pb g cap n : Nat} {R : List Rw} {o : Int} {W0 : List UInt8} {a : Option Addr} {c : Nat} {r : Rw} (h1 : w.heap[pb]? = some (.cells #[.slice a R.length c, .bool true, .int .i64 o, .string ⟨W0.toArray⟩] 89 (0, 0))) (h2 : w.ownsRow w0.heap.size 67 5 (.slice a R.length c) R.length (rowsC R)) (hp : w0.heap.size ≤ pb) (ho : Out w0 w) (k_ : Out w wA) (hg : wA.grownBy w8 (Value.slice a R.length c).ownBlock) (hn : R.length + 1 = n) (hown : w8.ownsRow w0.heap.size 67 5 (.slice (some ⟨g, 0, none⟩) n cap) n (rowsC R ++ r.cs)) : Pa w0 (w8.setCell ⟨pb, 0, none⟩ (.slice (some ⟨g, 0, none⟩) n cap)) pb (R ++ [r]) o W0 ∧ FrK w (w8.setCell ⟨pb, 0, none⟩ (.slice (some ⟨g, 0, none⟩) n cap)) := by
  have hA : wA.heap[pb]? = _ := (k_.block pb (Array.getElem?_eq_some_iff.1 h1).1).trans h1
  have c8 : Chg (fun b => (Value.slice a R.length c).ownBlock = some b) wA w8 := Chg.of_grown hg (fun k h => h)
  have h8 : w8.heap[pb]? = _ := (c8.block pb (Array.getElem?_eq_some_iff.1 hA).1 (fun e => own_kind h2 h1 (by decide) e)).trans hA
  have e1 : R.length + 1 = (R ++ [r]).length := by simp
  have e2 : rowsC (R ++ [r]) = rowsC R ++ r.cs := by simp [rowsC]
  have o8 : Out w0 w8 := Chg.out c8 (ho.trans k_) (fun k hk => (World.ownsRow.lt h2 k hk).1)
  subst hn
  have fr1 : FrK wA w8 := FrK.chg c8 (fun k hk => by
    have h2' := owns_chg (S := fun _ => False) h2 (fun _ _ h => h) (Chg.of_out k_)
    rcases h2'.2 with ⟨hv, _⟩ | ⟨g3, cap3, cur3, hv, _, hg3, _⟩
    · rw [hv] at hk; cases hk
    · rw [hv] at hk; simp [Value.ownBlock] at hk; subst hk; exact ⟨_, _, _, hg3, .inl rfl⟩)
  have fr2 : FrK w8 (w8.setCell ⟨pb, 0, none⟩ (.slice (some ⟨g, 0, none⟩) (R.length + 1) cap)) := FrK.chg (Chg.setCell (S := fun k => k = pb) (Chg.refl _ w8) (p := ⟨pb, 0, none⟩) rfl _) (fun k hk => by rw [hk]; exact ⟨_, _, _, h8, .inr rfl⟩)
  refine ⟨⟨⟨some ⟨g, 0, none⟩, cap, ?_, ?_⟩, hp, Out.setCell o8 hp _⟩, ((FrK.out k_).trans fr1).trans fr2⟩
  · rw [set_atL h8, ← e1]; rfl
  · rw [← e1, e2]
    exact owns_chg hown (fun k hk e => own_kind hown h8 (by decide) (by rw [hk, e])) (Chg.setCell (S := fun k => k = pb) (Chg.refl _ w8) (p := ⟨pb, 0, none⟩) rfl _)
set_option maxRecDepth 20000 in
set_option maxHeartbeats 4000000 in
theorem add4a_yes (w0 w : World) (pb : Nat) (R : List Rw) (o : Int) (h : Pa w0 w pb R o []) (hR : R.length ≤ 1000) (A B : List UInt8) (hA : 0 < A.length) (hA2 : A.length ≤ 100) (hB2 : B.length ≤ 100) (sh op off imm : Int) (op0 : 0 ≤ op) (op1 : op ≤ 1000) (Z : List UInt8) (hZ : Z = A ++ B) :
    Calls Tryz.prog 118 #[.pointer (some ⟨pb, 0, none⟩), .string ⟨A.toArray⟩, .string ⟨B.toArray⟩, .int .i64 sh, .int .i64 op, .int .i64 off, .int .i64 imm] w fun e w' => (∃ q, e = .returned q) ∧ Pa w0 w' pb (R ++ [⟨Z, sh, op, off, imm⟩]) o [] ∧ FrK w w' := by
  obtain ⟨a, c, st, own⟩ := h.st
  obtain ⟨n, hn⟩ : ∃ n, R.length = n := ⟨_, rfl⟩
  have c1 : w.cell? ⟨pb, 1, none⟩ = some (.bool true) := by rw [cell_atL st]; rfl
  have c2 : w.cell? ⟨pb, 2, none⟩ = some (.int .i64 o) := by rw [cell_atL st]; rfl
  have c3 : w.cell? ⟨pb, 3, none⟩ = some (.string ⟨#[]⟩) := by rw [cell_atL st]; rfl
  have c0 : w.cell? ⟨pb, 0, none⟩ = some (.slice a n c) := by rw [cell_atL st, ← hn]; rfl
  have HP := hidOf h
  have ST := hidOf st
  have OW := hidOf own
  have Hn := hidOf hn
  have hne : ((0 : Int) == (A.length : Int) + (B.length : Int)) = false := by simp; omega
  have hAI : (A.length : Int) ≤ 100 := by omega
  have hBI : (B.length : Int) ≤ 100 := by omega
  have hnn : n ≤ 1000 := by omega
  have HZ := hidOf hZ
  clear h st own hn hZ
  go_enter Tryz.func118, Tryz.ntmps118
  go_upto_region 1 with fail
  obtain ⟨q, hq⟩ : ∃ q, q = w.heap.size := ⟨_, rfl⟩
  obtain ⟨wB, hwB⟩ : ∃ wB, wB = w.alloc (.cells #[.string ⟨#[]⟩, .int .i64 sh, .int .i64 op, .int .i64 off, .int .i64 imm] 67) := ⟨_, rfl⟩
  have hB3 : wB.heap[q]? = some (.cells #[.string ⟨#[]⟩, .int .i64 sh, .int .i64 op, .int .i64 off, .int .i64 imm] 67 (0, 0)) := by rw [hwB, hq]; exact heap_alloc_new w _
  have oB : Out w wB := by rw [hwB]; exact (Out.refl w).alloc _
  rw [← hwB, ← hq]
  have OB := hidOf oB
  have HB3 := hidOf hB3
  have b0 := cell_later oB c0
  have b1 := cell_later oB c1
  have b2 := cell_later oB c2
  have b3 := cell_later oB c3
  have d0 : wB.cell? ⟨q, 0, none⟩ = some (.string ⟨#[]⟩) := by rw [cell_atL hB3]; rfl
  have d1 : wB.cell? ⟨q, 1, none⟩ = some (.int .i64 sh) := by rw [cell_atL hB3]; rfl
  have d2 : wB.cell? ⟨q, 2, none⟩ = some (.int .i64 op) := by rw [cell_atL hB3]; rfl
  have d3 : wB.cell? ⟨q, 3, none⟩ = some (.int .i64 off) := by rw [cell_atL hB3]; rfl
  have d4 : wB.cell? ⟨q, 4, none⟩ = some (.int .i64 imm) := by rw [cell_atL hB3]; rfl
  have Hq := hidOf hq
  clear hq hwB hB3 oB c0 c1 c2 c3
  go_upto_region 3 with fail
  go_quiet (fail)
  obtain ⟨w2, hw2⟩ : ∃ w2, w2 = wB.drewN nq := ⟨_, rfl⟩
  have O2 := hidOf (show Out wB w2 from by rw [hw2]; exact (Out.refl wB).dN _)
  rw [← hw2]
  clear hw2
  have a1 : ∀ w, (Op.stringOp .add ⟨A.toArray⟩ ⟨B.toArray⟩).run Tryz.prog w = .ok (.string ⟨Z.toArray⟩) w := add_l4 A B Z HZ.out (by omega)
  have hB2 : w2.heap[q]? = some (.cells #[.string ⟨#[]⟩, .int .i64 sh, .int .i64 op, .int .i64 off, .int .i64 imm] 67 (0, 0)) := (O2.out.block q (Array.getElem?_eq_some_iff.1 HB3.out).1).trans HB3.out
  have e0 : w2.cell? ⟨q, 0, none⟩ = some (.string ⟨#[]⟩) := by rw [cell_atL hB2]; rfl
  have f0 : w2.frozen? ⟨q, 0, none⟩ = false := frozen_atL hB2 0
  have HB2 := hidOf hB2
  have p0 := cell_later O2.out b0
  clear hB2 b0 b1 b2 b3 d0 d1 d2 d3 d4
  go_upto_region 5 with fail
  clear e0 f0 p0 a1
  obtain ⟨wC, hwC⟩ : ∃ wC, wC = w2.setCell ⟨q, 0, none⟩ (.string ⟨Z.toArray⟩) := ⟨_, rfl⟩
  rw [← hwC]
  have hC : wC.heap[q]? = some (.cells #[.string ⟨Z.toArray⟩, .int .i64 sh, .int .i64 op, .int .i64 off, .int .i64 imm] 67 (0, 0)) := by rw [hwC, set_atL HB2.out]; rfl
  have oW : Out w w2 := OB.out.trans O2.out
  have oC : Out w wC := by rw [hwC]; exact Out.setCell oW (by rw [Hq.out]; exact Nat.le_refl _) _
  have hpb : wC.heap[pb]? = _ := (oC.block pb (Array.getElem?_eq_some_iff.1 ST.out).1).trans ST.out
  have hown : wC.ownsRow w0.heap.size 67 5 (.slice a R.length c) R.length (rowsC R) := owns_chg (S := fun _ => False) OW.out (fun _ _ h => h) (Chg.of_out oC)
  have HC := hidOf hC
  have OC := hidOf oC
  have HPB := hidOf hpb
  have HOW := hidOf hown
  obtain ⟨i0, hi, hz0, hz1, hz2⟩ := info_parts infoRw
  have pD : wC.drew.cell? ⟨pb, 0, none⟩ = some (.slice a n c) := by rw [cell_atL (show wC.drew.heap[pb]? = _ from hpb), ← Hn.out]; rfl
  have d0 : wC.drew.cell? ⟨q, 0, none⟩ = some (.string ⟨Z.toArray⟩) := by rw [cell_atL (show wC.drew.heap[q]? = _ from hC)]; rfl
  have d1 : wC.drew.cell? ⟨q, 1, none⟩ = some (.int .i64 sh) := by rw [cell_atL (show wC.drew.heap[q]? = _ from hC)]; rfl
  have d2 : wC.drew.cell? ⟨q, 2, none⟩ = some (.int .i64 op) := by rw [cell_atL (show wC.drew.heap[q]? = _ from hC)]; rfl
  have d3 : wC.drew.cell? ⟨q, 3, none⟩ = some (.int .i64 off) := by rw [cell_atL (show wC.drew.heap[q]? = _ from hC)]; rfl
  have d4 : wC.drew.cell? ⟨q, 4, none⟩ = some (.int .i64 imm) := by rw [cell_atL (show wC.drew.heap[q]? = _ from hC)]; rfl
  have pDa : (wC.alloc (.cells #[.string ⟨Z.toArray⟩, .int .i64 sh, .int .i64 op, .int .i64 off, .int .i64 imm] 67)).cell? ⟨pb, 0, none⟩ = some (.slice a n c) := cell_later (((Out.refl wC)).alloc _) (show wC.cell? ⟨pb, 0, none⟩ = _ from pD)
  have RX : Hid (∀ O, (wC.alloc O).drew.ownsRow w0.heap.size 67 5 (.slice a n c) n (rowsC R)) := hidOf (fun O => by
    have := owns_chg (S := fun _ => False) hown (fun _ _ h => h) (Chg.of_out (((Out.refl wC).alloc O).drew))
    rw [Hn.out] at this; exact this)
  have HPw : Hid (∀ O w8, (wC.alloc O).drew.grownBy w8 (Value.slice a n c).ownBlock → w8.cell? ⟨pb, 0, none⟩ = some (.slice a n c) ∧ w8.frozen? ⟨pb, 0, none⟩ = false) := hidOf (fun O w8 hg => by
    have hA : (wC.alloc O).drew.heap[pb]? = _ := ((((Out.refl wC).alloc O).drew).block pb (Array.getElem?_eq_some_iff.1 hpb).1).trans hpb
    have hs : w8.heap[pb]? = _ := (hg.block pb (Array.getElem?_eq_some_iff.1 hA).1 (fun e => own_kind (RX.out O) hA (by decide) e.symm)).trans hA
    exact ⟨by rw [cell_atL hs, ← Hn.out]; rfl, frozen_atL hs 0⟩)
  have hbase : Hid (∀ O, w0.heap.size ≤ (wC.alloc O).drew.heap.size) := hidOf (fun O => ((HP.out.out.trans oC).alloc O).drew.size)
  have FC : Hid (FrK w wC) := hidOf (by rw [hwC]; exact (FrK.out oW).trans (FrK.chg (Chg.setCell (S := fun k => k = q) (Chg.refl _ w2) (p := ⟨q, 0, none⟩) rfl _) (fun k hk => by rw [hk]; exact ⟨_, _, _, HB2.out, .inl rfl⟩)))
  clear hwC hC oW oC hpb hown HB2 HB3 OB O2
  go_region_law (first | (refine step_append_lies _ rfl (.tmp 91) (.tmp 93) 86 rfl w0.heap.size 67 i0 _ 5 48 Tryz.underlying86 hi hz0 hz1 hz2 rfl (by decide) (.slice a n c) n (rowsC R) rfl (RX.out _) ⟨wC.heap.size, 0, none⟩ 1 1 [.string ⟨Z.toArray⟩, .int .i64 sh, .int .i64 op, .int .i64 off, .int .i64 imm] rfl rfl (fun j u hu => cell_later ((Out.refl _).drew) (news_new wC _ _ _ rfl j u hu)) (by intro u hu; simp at hu; rcases hu with h | h | h | h | h <;> subst h <;> rfl) (by decide) (by unfold maxLen; omega) (by omega) (hbase.out _) _ rfl ?_; intro g9 cap9 w9 hown9 hgrow9 hg9 hlt9; obtain ⟨q9, f9⟩ := HPw.out _ w9 hgrow9; have W9 := hidOf hown9; have G9 := hidOf hgrow9; clear hown9 hgrow9 hg9 hlt9))
  all_goals
    go_end0
    have hP := Pa.push (r := ⟨Z, sh, op, off, imm⟩) HPB.out HOW.out HP.out.pB (HP.out.out.trans OC.out) (((Out.refl wC).alloc _).drew) (by rw [Hn.out]; exact G9.out) (by rw [Hn.out]) W9.out
    exact ⟨⟨_, rfl⟩, hP.1, FC.out.trans hP.2⟩
end Go.Proofs.YtcomhlimgocoaaaGreatDoor
namespace Go.Proofs.YtcomhlimgocoaaaGreatDoor
open Go.RowKit
set_option linter.unusedVariables false
set_option linter.unusedSimpArgs false
/-- all rows -/
def Pal (L : List Rw) : List Rw := L
theorem add4a_any (w0 w : World) (pb : Nat) (L : List Rw) (o : Int) (h : Pa w0 w pb (Pal L) o []) (hL : L.length ≤ 900) (A B : List UInt8) (hA : 0 < A.length) (hA2 : A.length ≤ 100) (hB2 : B.length ≤ 100) (sh op off imm : Int) (op0 : 0 ≤ op) (op1 : op ≤ 1000) (Z : List UInt8) (hZ : Z = A ++ B) :
    Calls Tryz.prog 118 #[.pointer (some ⟨pb, 0, none⟩), .string ⟨A.toArray⟩, .string ⟨B.toArray⟩, .int .i64 sh, .int .i64 op, .int .i64 off, .int .i64 imm] w fun e w' => (∃ q, e = .returned q) ∧ Pa w0 w' pb (Pal (L ++ [⟨Z, sh, op, off, imm⟩])) o [] ∧ FrK w w' := by
  exact add4a_yes w0 w pb L o h (by omega) A B hA hA2 hB2 sh op off imm op0 op1 Z hZ
set_option maxRecDepth 8000 in
set_option maxHeartbeats 1000000 in
theorem both4a_any (w0 w : World) (pb : Nat) (L : List Rw) (o : Int) (h : Pa w0 w pb (Pal L) o []) (hL : L.length ≤ 800) (A : List UInt8) (hA : 0 < A.length) (hA2 : A.length ≤ 100) (sh code off : Int) (c0 : 0 ≤ code) (c1 : code ≤ 900) :
    Calls Tryz.prog 117 #[.pointer (some ⟨pb, 0, none⟩), .string ⟨A.toArray⟩, .int .i64 sh, .int .i64 code, .int .i64 off] w fun e w' => (∃ q, e = .returned q) ∧ Pa w0 w' pb (Pal (L ++ bothL A sh code off)) o [] ∧ FrK w w' := by
  by_cases h8 : sh = 8
  · subst h8
    have C1 := hidOf (add4a_any w0 w pb L o h (by omega) A [] hA hA2 (by simp) 8 (5 + code) off 0 (by omega) (by omega) A (by simp))
    have C2 : Hid (∀ wx, Pa w0 wx pb (Pal (L ++ [⟨A, 8, 5 + code, off, 0⟩])) o [] → Calls Tryz.prog 118 #[.pointer (some ⟨pb, 0, none⟩), .string ⟨A.toArray⟩, .string ⟨#[51, 50]⟩, .int .i64 8, .int .i64 (6 + code), .int .i64 off, .int .i64 0] wx fun e w' => (∃ q, e = .returned q) ∧ Pa w0 w' pb (Pal ((L ++ [⟨A, 8, 5 + code, off, 0⟩]) ++ [⟨A ++ [51, 50], 8, 6 + code, off, 0⟩])) o [] ∧ FrK wx w') := hidOf (fun wx hx => add4a_any w0 wx pb _ o hx (by simp; omega) A [51, 50] hA hA2 (by simp) 8 (6 + code) off 0 (by omega) (by omega) (A ++ [51, 50]) rfl)
    have hE : Hid (L ++ bothL A 8 code off = (L ++ [⟨A, 8, 5 + code, off, 0⟩]) ++ [⟨A ++ [51, 50], 8, 6 + code, off, 0⟩]) := hidOf (by simp [bothL])
    rw [hE.out]
    clear h
    go_enter Tryz.func117, Tryz.ntmps117
    go_upto_region 2 with (go_at_call 118; refine C1.out.mono ?_; rintro e w1 ⟨⟨q1, rfl⟩, hp, hf⟩; have P1 := hidOf hp; have F1 := hidOf hf; clear hp hf)
    go_wp2_with (go_at_call 118; refine (C2.out _ P1.out).mono ?_; rintro e w2 ⟨⟨q2, rfl⟩, hp, hf⟩; have P2 := hidOf hp; have F2 := hidOf hf; clear hp hf)
    refine bodyPost_ret (results_none rfl _ _ _) rfl ?_
    exact ⟨⟨_, rfl⟩, P2.out, F1.out.trans F2.out⟩
  · have h8b : (sh == 8) = false := by simpa using h8
    have C1 := hidOf (add4a_any w0 w pb L o h (by omega) A [] hA hA2 (by simp) sh (7 + code) off 0 (by omega) (by omega) A (by simp))
    have C2 : Hid (∀ wx, Pa w0 wx pb (Pal (L ++ [⟨A, sh, 7 + code, off, 0⟩])) o [] → Calls Tryz.prog 118 #[.pointer (some ⟨pb, 0, none⟩), .string ⟨A.toArray⟩, .string ⟨#[51, 50]⟩, .int .i64 sh, .int .i64 (4 + code), .int .i64 off, .int .i64 0] wx fun e w' => (∃ q, e = .returned q) ∧ Pa w0 w' pb (Pal ((L ++ [⟨A, sh, 7 + code, off, 0⟩]) ++ [⟨A ++ [51, 50], sh, 4 + code, off, 0⟩])) o [] ∧ FrK wx w') := hidOf (fun wx hx => add4a_any w0 wx pb _ o hx (by simp; omega) A [51, 50] hA hA2 (by simp) sh (4 + code) off 0 (by omega) (by omega) (A ++ [51, 50]) rfl)
    have hE : Hid (L ++ bothL A sh code off = (L ++ [⟨A, sh, 7 + code, off, 0⟩]) ++ [⟨A ++ [51, 50], sh, 4 + code, off, 0⟩]) := hidOf (by simp [bothL, h8])
    rw [hE.out]
    clear h h8
    go_enter Tryz.func117, Tryz.ntmps117
    go_upto_region 4 with (go_at_call 118; refine C1.out.mono ?_; rintro e w1 ⟨⟨q1, rfl⟩, hp, hf⟩; have P1 := hidOf hp; have F1 := hidOf hf; clear hp hf)
    go_wp2_with (go_at_call 118; refine (C2.out _ P1.out).mono ?_; rintro e w2 ⟨⟨q2, rfl⟩, hp, hf⟩; have P2 := hidOf hp; have F2 := hidOf hf; clear hp hf)
    go_end0
    exact ⟨⟨_, rfl⟩, P2.out, F1.out.trans F2.out⟩
end Go.Proofs.YtcomhlimgocoaaaGreatDoor
namespace Go.Proofs.YtcomhlimgocoaaaGreatDoor
open Go.RowKit
set_option linter.unusedVariables false
set_option linter.unusedSimpArgs false
set_option maxRecDepth 20000 in
set_option maxHeartbeats 4000000 in
theorem sums4a_any (w0 w : World) (pb : Nat) (o : Int) (h : Pa w0 w pb (Pal []) o []) : Calls Tryz.prog 70 #[.pointer (some ⟨pb, 0, none⟩)] w fun e w' => (∃ q, e = .returned q) ∧ Pa w0 w' pb (Pal (rwA ++ rwB ++ rwC)) o [] := by
  have H := hidOf h
  clear h
  go_enter Tryz.func70, Tryz.ntmps70
  go_upto_region 2 with fail
  obtain ⟨q1, hq1⟩ : ∃ q1, q1 = w.heap.size := ⟨_, rfl⟩
  obtain ⟨q2, hq2⟩ : ∃ q2, q2 = w.heap.size + 1 := ⟨_, rfl⟩
  obtain ⟨qw, hqw⟩ : ∃ qw, qw = (w.alloc (.cells sWC 153)).alloc (.cells sCC 154) := ⟨_, rfl⟩
  have hsq : (w.alloc (.cells sWC 153)).heap.size = w.heap.size + 1 := size_alloc _ _
  have bq1 : qw.heap[q1]? = some (.cells sWC 153 (0, 0)) := by
    rw [hqw, hq1]
    exact blk_out ((Out.refl _).alloc _) (heap_alloc_new w _)
  have bq2 : qw.heap[q2]? = some (.cells sCC 154 (0, 0)) := by
    rw [hqw, hq2, ← hsq]
    exact heap_alloc_new (w.alloc (.cells sWC 153)) _
  have oq : Out w qw := by rw [hqw]; exact ((Out.refl w).alloc _).alloc _
  change Code.wp _ _ _ _ ((w.alloc (.cells sWC 153)).alloc (.cells sCC 154))
  rw [← hqw, ← hq2, ← hq1]
  have Bq1 := hidOf bq1
  have Bq2 := hidOf bq2
  have Oq := hidOf oq
  clear hqw hq1 hq2 hsq bq1 bq2 oq
  have H0 : Hid (Pa w0 qw pb (Pal (rwA.take (2 * 0))) o []) := hidOf (H.out.on Oq.out)
  clear H Oq
  go_wp2
  go_loopw [4] (fun iv wr => ∃ i : Nat, iv = .int .i64 i ∧ i ≤ 12 ∧ Hid (Pa w0 wr pb (Pal (rwA.take (2 * i))) o []) ∧ Hid (wr.heap[q1]? = some (.cells sWC 153 (0, 0))) ∧ Hid (wr.heap[q2]? = some (.cells sCC 154 (0, 0)))) (fun iv _ => 12 - (intOf iv).toNat)
  case atStart => exact ⟨0, rfl, by omega, H0, Bq1, Bq2⟩
  case round =>
    clear H0 Bq1 Bq2
    obtain ⟨i, rfl, hi, HP, B1, B2⟩ := hrel
    by_cases hin : i < 12
    · have hiI : (i : Int) < 12 := by omega
      have hi0 : (0 : Int) ≤ i := by omega
      have c1 : wr.cell? ⟨q1, i, none⟩ = some (.string ⟨(sW i).toArray⟩) := by rw [cell_atL B1.out]; exact sW_at i hin
      have c2 : wr.cell? ⟨q2, i, none⟩ = some (.int .i64 (sC i)) := by rw [cell_atL B2.out]; exact sC_at i hin
      have hl1 := sW_len i hin
      have hb2 := sC_bd i hin
      obtain ⟨A, hA⟩ : ∃ A, A = sW i := ⟨_, rfl⟩
      obtain ⟨cd, hcd⟩ : ∃ cd, cd = sC i := ⟨_, rfl⟩
      have HS := hidOf (sA i hin)
      rw [← hA, ← hcd] at HS
      rw [← hA] at c1 hl1
      rw [← hcd] at c2 hb2
      have CB : Hid (∀ wx, Pa w0 wx pb (Pal (rwA.take (2 * i))) o [] → Calls Tryz.prog 117 #[.pointer (some ⟨pb, 0, none⟩), .string ⟨A.toArray⟩, .int .i64 1, .int .i64 cd, .int .i64 0] wx fun e w' => (∃ q, e = .returned q) ∧ Pa w0 w' pb (Pal (rwA.take (2 * i) ++ bothL A 1 cd 0)) o [] ∧ FrK wx w') := hidOf (fun wx hx => both4a_any w0 wx pb _ o hx (by have : (rwA.take (2 * i)).length ≤ 24 := Nat.le_trans (List.length_take_le' _ _) (by decide); omega) A hl1.1 hl1.2 1 cd 0 hb2.1 hb2.2)
      clear hA hcd hl1 hb2
      go_upto_region 5 with fail
      go_region_held3 (fun w' => w'.cell? ⟨q1, i, none⟩ = some (.string ⟨A.toArray⟩) ∧ w'.cell? ⟨q2, i, none⟩ = some (.int .i64 cd)) (first | exact ⟨c1, c2⟩ | exact ⟨e1, e2⟩ | go_keep) (first | (go_at_call 117; refine (CB.out _ (HP.out.on ((Out.refl wr).dN _))).mono ?_; rintro e w2 ⟨⟨y2, rfl⟩, hp, hf⟩; have P2 := hidOf hp; have F2 := hidOf ((FrK.out ((Out.refl wr).dN _)).trans hf); have e1 : w2.cell? ⟨q1, i, none⟩ = some (.string ⟨A.toArray⟩) := (by rw [cell_atL (F2.out _ _ _ _ B1.out (by decide) (by decide)), ← cell_atL B1.out]; exact c1); have e2 : w2.cell? ⟨q2, i, none⟩ = some (.int .i64 cd) := (by rw [cell_atL (F2.out _ _ _ _ B2.out (by decide) (by decide)), ← cell_atL B2.out]; exact c2); clear hp hf))
      go_wp2
      go_roundw
      case rel => exact ⟨i + 1, by simp, by omega, hidOf (by rw [HS.out]; exact P2.out), hidOf (F2.out _ _ _ _ B1.out (by decide) (by decide)), hidOf (F2.out _ _ _ _ B2.out (by decide) (by decide))⟩
      case measure => simp [intOf]; omega
    · have hiI : ¬ (i : Int) < 12 := by omega
      obtain rfl : i = 12 := by omega
      have HP0 : Hid (Pa w0 wr pb (Pal rwA) o []) := hidOf HP.out
      clear HP B1 B2
      go_upto_region 6 with fail
      have C0 := hidOf (both4a_any w0 _ pb _ o HP0.out (by decide) [115, 100, 105, 118] (by decide) (by decide) 1 48 1 (by omega) (by omega))
      go_upto_region 7 with (go_at_call 117; refine C0.out.mono ?_; rintro e x0 ⟨⟨y0, rfl⟩, hp, hf⟩; have HP1 := hidOf hp; have FK1 := hidOf hf; clear hp hf)
      clear C0 HP0
      have C1 := hidOf (both4a_any w0 _ pb _ o HP1.out (by decide) [115, 109, 111, 100] (by decide) (by decide) 1 144 1 (by omega) (by omega))
      go_upto_region 8 with (go_at_call 117; refine C1.out.mono ?_; rintro e x1 ⟨⟨y1, rfl⟩, hp, hf⟩; have HP2 := hidOf hp; have FK2 := hidOf hf; clear hp hf)
      clear C1 HP1
      have C2 := hidOf (both4a_any w0 _ pb _ o HP2.out (by decide) [110, 101, 103] (by decide) (by decide) 3 128 0 (by omega) (by omega))
      go_upto_region 9 with (go_at_call 117; refine C2.out.mono ?_; rintro e x2 ⟨⟨y2, rfl⟩, hp, hf⟩; have HP3 := hidOf hp; have FK3 := hidOf hf; clear hp hf)
      clear C2 HP2
      have C3 := hidOf (add4a_any w0 _ pb _ o HP3.out (by decide) [109, 111, 118, 115, 56] [] (by decide) (by decide) (by decide) 2 191 8 0 (by omega) (by omega) [109, 111, 118, 115, 56] rfl)
      go_upto_region 10 with (go_at_call 118; refine C3.out.mono ?_; rintro e x3 ⟨⟨y3, rfl⟩, hp, hf⟩; have HP4 := hidOf hp; have FK4 := hidOf hf; clear hp hf)
      clear C3 HP3
      have C4 := hidOf (add4a_any w0 _ pb _ o HP4.out (by decide) [109, 111, 118, 115, 49, 54] [] (by decide) (by decide) (by decide) 2 191 16 0 (by omega) (by omega) [109, 111, 118, 115, 49, 54] rfl)
      go_upto_region 11 with (go_at_call 118; refine C4.out.mono ?_; rintro e x4 ⟨⟨y4, rfl⟩, hp, hf⟩; have HP5 := hidOf hp; have FK5 := hidOf hf; clear hp hf)
      clear C4 HP4
      have C5 := hidOf (add4a_any w0 _ pb _ o HP5.out (by decide) [109, 111, 118, 115, 51, 50] [] (by decide) (by decide) (by decide) 2 191 32 0 (by omega) (by omega) [109, 111, 118, 115, 51, 50] rfl)
      go_upto_region 12 with (go_at_call 118; refine C5.out.mono ?_; rintro e x5 ⟨⟨y5, rfl⟩, hp, hf⟩; have HP6 := hidOf hp; have FK6 := hidOf hf; clear hp hf)
      clear C5 HP5
      have C6 := hidOf (add4a_any w0 _ pb _ o HP6.out (by decide) [109, 111, 118, 115, 56, 119] [] (by decide) (by decide) (by decide) 2 188 8 0 (by omega) (by omega) [109, 111, 118, 115, 56, 119] rfl)
      go_upto_region 13 with (go_at_call 118; refine C6.out.mono ?_; rintro e x6 ⟨⟨y6, rfl⟩, hp, hf⟩; have HP7 := hidOf hp; have FK7 := hidOf hf; clear hp hf)
      clear C6 HP6
      have C7 := hidOf (add4a_any w0 _ pb _ o HP7.out (by decide) [109, 111, 118, 115, 49, 54, 119] [] (by decide) (by decide) (by decide) 2 188 16 0 (by omega) (by omega) [109, 111, 118, 115, 49, 54, 119] rfl)
      go_upto_region 14 with (go_at_call 118; refine C7.out.mono ?_; rintro e x7 ⟨⟨y7, rfl⟩, hp, hf⟩; have HP8 := hidOf hp; have FK8 := hidOf hf; clear hp hf)
      clear C7 HP7
      go_upto_region 16 with fail
      obtain ⟨r1, hr1⟩ : ∃ r1, r1 = x7.heap.size := ⟨_, rfl⟩
      obtain ⟨r2, hr2⟩ : ∃ r2, r2 = x7.heap.size + 1 := ⟨_, rfl⟩
      obtain ⟨rw, hrw⟩ : ∃ rw, rw = (x7.alloc (.cells eWC 157)).alloc (.cells eCC 158) := ⟨_, rfl⟩
      have hsr : (x7.alloc (.cells eWC 157)).heap.size = x7.heap.size + 1 := size_alloc _ _
      have br1 : rw.heap[r1]? = some (.cells eWC 157 (0, 0)) := by
        rw [hrw, hr1]
        exact blk_out ((Out.refl _).alloc _) (heap_alloc_new x7 _)
      have br2 : rw.heap[r2]? = some (.cells eCC 158 (0, 0)) := by
        rw [hrw, hr2, ← hsr]
        exact heap_alloc_new (x7.alloc (.cells eWC 157)) _
      have or : Out x7 rw := by rw [hrw]; exact ((Out.refl x7).alloc _).alloc _
      change Code.wp _ _ _ _ ((x7.alloc (.cells eWC 157)).alloc (.cells eCC 158))
      rw [← hrw, ← hr2, ← hr1]
      have Br1 := hidOf br1
      have Br2 := hidOf br2
      have Or := hidOf or
      clear hrw hr1 hr2 hsr br1 br2 or
      have H8 : Hid (Pa w0 rw pb (Pal (rwA ++ rwB ++ rwC.take (3 * 0))) o []) := hidOf (HP8.out.on Or.out)
      clear HP8 Or
      go_wp2
      go_loopw [7] (fun iv wr => ∃ i : Nat, iv = .int .i64 i ∧ i ≤ 3 ∧ Hid (Pa w0 wr pb (Pal (rwA ++ rwB ++ rwC.take (3 * i))) o []) ∧ Hid (wr.heap[r1]? = some (.cells eWC 157 (0, 0))) ∧ Hid (wr.heap[r2]? = some (.cells eCC 158 (0, 0)))) (fun iv _ => 3 - (intOf iv).toNat)
      case atStart => exact ⟨0, rfl, by omega, H8, Br1, Br2⟩
      case round =>
        clear H8 Br1 Br2
        obtain ⟨i, rfl, hi, HP_0, B1_0, B2_0⟩ := hrel
        by_cases hin : i < 3
        · have hiI : (i : Int) < 3 := by omega
          have hi0 : (0 : Int) ≤ i := by omega
          have c1_0 : wr.cell? ⟨r1, i, none⟩ = some (.string ⟨(eW i).toArray⟩) := by rw [cell_atL B1_0.out]; exact eW_at i hin
          have c2_0 : wr.cell? ⟨r2, i, none⟩ = some (.int .i64 (eC i)) := by rw [cell_atL B2_0.out]; exact eC_at i hin
          obtain ⟨hl1, hl2⟩ := eW_len i hin
          obtain ⟨hb1, hb2⟩ := eC_bd i hin
          have HS := hidOf (sE i hin)
          obtain ⟨A, hA⟩ : ∃ A, A = eW i := ⟨_, rfl⟩
          obtain ⟨cd, hcd⟩ : ∃ cd, cd = eC i := ⟨_, rfl⟩
          rw [← hA, ← hcd] at HS
          rw [← hA] at c1_0 hl1 hl2
          rw [← hcd] at c2_0 hb1 hb2
          clear hA hcd
          obtain ⟨L0, hL0⟩ : ∃ L0, L0 = rwA ++ rwB ++ rwC.take (3 * i) := ⟨_, rfl⟩
          have hLl : L0.length ≤ 100 := by
            have : (rwC.take (3 * i)).length ≤ 9 := Nat.le_trans (List.length_take_le' _ _) (by decide)
            rw [hL0, List.length_append, List.length_append, show rwA.length = 24 from rfl, show rwB.length = 11 from rfl]; omega
          rw [← hL0] at HP_0
          have HL0 := hidOf hL0
          clear hL0
          have C1 : Hid (∀ wx, Pa w0 wx pb (Pal (L0)) o [] → Calls Tryz.prog 118 #[.pointer (some ⟨pb, 0, none⟩), .string ⟨A.toArray⟩, .string ⟨#[49, 54]⟩, .int .i64 3, .int .i64 cd, .int .i64 0, .int .i64 16] wx fun e w' => (∃ q, e = .returned q) ∧ Pa w0 w' pb (Pal ((L0) ++ [⟨A ++ [49, 54], 3, cd, 0, 16⟩])) o [] ∧ FrK wx w') := hidOf (fun wx hx => add4a_any w0 wx pb _ o hx (by omega) (A) ([49, 54]) (by first | omega | (simp; done) | (simp; omega)) (by first | omega | (simp; done) | (simp; omega)) (by first | omega | (simp; done) | (simp; omega)) 3 (cd) 0 (16) (by omega) (by omega) (A ++ [49, 54]) (by first | rfl | simp))
          have C2 : Hid (∀ wx, Pa w0 wx pb (Pal (L0 ++ [⟨A ++ [49, 54], 3, cd, 0, 16⟩])) o [] → Calls Tryz.prog 118 #[.pointer (some ⟨pb, 0, none⟩), .string ⟨A.toArray⟩, .string ⟨#[51, 50]⟩, .int .i64 3, .int .i64 cd, .int .i64 0, .int .i64 32] wx fun e w' => (∃ q, e = .returned q) ∧ Pa w0 w' pb (Pal ((L0 ++ [⟨A ++ [49, 54], 3, cd, 0, 16⟩]) ++ [⟨A ++ [51, 50], 3, cd, 0, 32⟩])) o [] ∧ FrK wx w') := hidOf (fun wx hx => add4a_any w0 wx pb _ o hx (by simp; omega) (A) ([51, 50]) (by first | omega | (simp; done) | (simp; omega)) (by first | omega | (simp; done) | (simp; omega)) (by first | omega | (simp; done) | (simp; omega)) 3 (cd) 0 (32) (by omega) (by omega) (A ++ [51, 50]) (by first | rfl | simp))
          have C3 : Hid (∀ wx, Pa w0 wx pb (Pal (L0 ++ [⟨A ++ [49, 54], 3, cd, 0, 16⟩] ++ [⟨A ++ [51, 50], 3, cd, 0, 32⟩])) o [] → Calls Tryz.prog 118 #[.pointer (some ⟨pb, 0, none⟩), .string ⟨A.toArray⟩, .string ⟨#[54, 52]⟩, .int .i64 3, .int .i64 cd, .int .i64 0, .int .i64 64] wx fun e w' => (∃ q, e = .returned q) ∧ Pa w0 w' pb (Pal ((L0 ++ [⟨A ++ [49, 54], 3, cd, 0, 16⟩] ++ [⟨A ++ [51, 50], 3, cd, 0, 32⟩]) ++ [⟨A ++ [54, 52], 3, cd, 0, 64⟩])) o [] ∧ FrK wx w') := hidOf (fun wx hx => add4a_any w0 wx pb _ o hx (by simp; omega) (A) ([54, 52]) (by first | omega | (simp; done) | (simp; omega)) (by first | omega | (simp; done) | (simp; omega)) (by first | omega | (simp; done) | (simp; omega)) 3 (cd) 0 (64) (by omega) (by omega) (A ++ [54, 52]) (by first | rfl | simp))
          clear hl1 hl2 hb1 hb2 hLl
          go_upto_region 19 with fail
          go_region_held3 (fun w' => w'.cell? ⟨r1, i, none⟩ = some (.string ⟨A.toArray⟩) ∧ w'.cell? ⟨r2, i, none⟩ = some (.int .i64 cd)) (first | exact ⟨c1_0, c2_0⟩ | exact ⟨c1_1, c2_1⟩ | go_keep) (first | (go_at_call 118; refine (C1.out _ (HP_0.out.on ((Out.refl wr).dN _))).mono ?_; rintro e u1 ⟨⟨y2, rfl⟩, hp, hf⟩; have HP_1 := hidOf hp; have F_1 := hidOf ((FrK.out ((Out.refl wr).dN _)).trans hf); have c1_1 : u1.cell? ⟨r1, i, none⟩ = some (.string ⟨A.toArray⟩) := (by rw [cell_atL (F_1.out _ _ _ _ B1_0.out (by decide) (by decide)), ← cell_atL B1_0.out]; exact c1_0); have c2_1 : u1.cell? ⟨r2, i, none⟩ = some (.int .i64 cd) := (by rw [cell_atL (F_1.out _ _ _ _ B2_0.out (by decide) (by decide)), ← cell_atL B2_0.out]; exact c2_0); clear hp hf))
          have B1_1 := hidOf (F_1.out _ _ _ _ B1_0.out (by decide) (by decide))
          have B2_1 := hidOf (F_1.out _ _ _ _ B2_0.out (by decide) (by decide))
          clear c1_0 c2_0 HP_0 F_1 B1_0 B2_0
          go_upto_region 20 with fail
          go_region_held3 (fun w' => w'.cell? ⟨r1, i, none⟩ = some (.string ⟨A.toArray⟩) ∧ w'.cell? ⟨r2, i, none⟩ = some (.int .i64 cd)) (first | exact ⟨c1_1, c2_1⟩ | exact ⟨c1_2, c2_2⟩ | go_keep) (first | (go_at_call 118; refine (C2.out _ (HP_1.out.on ((Out.refl u1).dN _))).mono ?_; rintro e u2 ⟨⟨y2, rfl⟩, hp, hf⟩; have HP_2 := hidOf hp; have F_2 := hidOf ((FrK.out ((Out.refl u1).dN _)).trans hf); have c1_2 : u2.cell? ⟨r1, i, none⟩ = some (.string ⟨A.toArray⟩) := (by rw [cell_atL (F_2.out _ _ _ _ B1_1.out (by decide) (by decide)), ← cell_atL B1_1.out]; exact c1_1); have c2_2 : u2.cell? ⟨r2, i, none⟩ = some (.int .i64 cd) := (by rw [cell_atL (F_2.out _ _ _ _ B2_1.out (by decide) (by decide)), ← cell_atL B2_1.out]; exact c2_1); clear hp hf))
          have B1_2 := hidOf (F_2.out _ _ _ _ B1_1.out (by decide) (by decide))
          have B2_2 := hidOf (F_2.out _ _ _ _ B2_1.out (by decide) (by decide))
          clear c1_1 c2_1 HP_1 F_2 B1_1 B2_1
          go_upto_region 21 with fail
          go_region_held3 (fun w' => w'.cell? ⟨r1, i, none⟩ = some (.string ⟨A.toArray⟩) ∧ w'.cell? ⟨r2, i, none⟩ = some (.int .i64 cd)) (first | exact ⟨c1_2, c2_2⟩ | exact ⟨c1_3, c2_3⟩ | go_keep) (first | (go_at_call 118; refine (C3.out _ (HP_2.out.on ((Out.refl u2).dN _))).mono ?_; rintro e u3 ⟨⟨y2, rfl⟩, hp, hf⟩; have HP_3 := hidOf hp; have F_3 := hidOf ((FrK.out ((Out.refl u2).dN _)).trans hf); have c1_3 : u3.cell? ⟨r1, i, none⟩ = some (.string ⟨A.toArray⟩) := (by rw [cell_atL (F_3.out _ _ _ _ B1_2.out (by decide) (by decide)), ← cell_atL B1_2.out]; exact c1_2); have c2_3 : u3.cell? ⟨r2, i, none⟩ = some (.int .i64 cd) := (by rw [cell_atL (F_3.out _ _ _ _ B2_2.out (by decide) (by decide)), ← cell_atL B2_2.out]; exact c2_2); clear hp hf))
          have B1_3 := hidOf (F_3.out _ _ _ _ B1_2.out (by decide) (by decide))
          have B2_3 := hidOf (F_3.out _ _ _ _ B2_2.out (by decide) (by decide))
          clear c1_2 c2_2 HP_2 F_3 B1_2 B2_2
          have HQ : Hid (Pa w0 u3 pb (Pal (rwA ++ rwB ++ rwC.take (3 * (i + 1)))) o []) := hidOf (by
            have h := HP_3.out
            rw [HL0.out] at h
            rw [HS.out]
            simpa using h)
          clear HP_3 HS HL0 c1_3 c2_3
          go_wp2
          go_roundw
          case rel => exact ⟨i + 1, by simp, by omega, HQ, B1_3, B2_3⟩
          case measure => simp [intOf]; omega
        · have hiI : ¬ (i : Int) < 3 := by omega
          obtain rfl : i = 3 := by omega
          go_wp2
          go_end0
          exact ⟨⟨_, rfl⟩, HP_0.out⟩
end Go.Proofs.YtcomhlimgocoaaaGreatDoor
