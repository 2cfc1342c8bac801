import Derived.Test.YtlfcjbeldnkkoaaGb40
import Derived.Deep.RegionLaw
namespace Go.Proofs.Ytlfcjbeldnkkoaa
open Go.RowKit
set_option linter.unusedVariables false
set_option linter.unusedSimpArgs false
/-- the counts are stored -/
theorem ShZ.cnt {w : World} {p : Nat} {ct tt : Int} {r : Nat → Value} {L : Nat → List Value} (h : ShZ w p ct tt r L) (ct' tt' : Int) : ShZ ((w.setCell ⟨p, 0, none⟩ (.int .i64 ct')).setCell ⟨p, 1, none⟩ (.int .i64 tt')) p ct' tt' r L ∧ Chg (fun b => b = p) w ((w.setCell ⟨p, 0, none⟩ (.int .i64 ct')).setCell ⟨p, 1, none⟩ (.int .i64 tt')) := by
  have c : Chg (fun b => b = p) w ((w.setCell ⟨p, 0, none⟩ (.int .i64 ct')).setCell ⟨p, 1, none⟩ (.int .i64 tt')) := ((Chg.refl (fun b => b = p) w).setCell (p := ⟨p, 0, none⟩) rfl _).setCell (p := ⟨p, 1, none⟩) rfl _
  refine ⟨⟨by rw [set_atL (set_atL h.st 0 _)]; rfl, fun j hj => owns_chg (h.row j hj) (fun b hb e => h.notp hj (by rw [hb, e])) c, h.sep⟩, c⟩
/-- the blocks that an Own turns ahead of its writing -/
def SOwZ (p : Nat) (r : Nat → Value) (b : Nat) : Prop := b = p ∨ (r 0).ownBlock = some b ∨ (r 1).ownBlock = some b
theorem ShZ.sow {w : World} {p : Nat} {ct tt : Int} {r : Nat → Value} {L : Nat → List Value} (h : ShZ w p ct tt r L) {v : Value} {N : List Fs} {B : Nat} (hv : OwZ B v N w) {b : Nat} (hb : v.ownBlock = some b) : ¬ SOwZ p r b := fun hs => by
  obtain ⟨_, cs, hc⟩ := own_blkZ hv hb
  rcases hs with e | e | e
  · have := h.st; rw [← e, hc] at this; simp at this
  · exact own_kind (h.row 0 (by omega)) hc (by decide) e
  · exact own_kind (h.row 1 (by omega)) hc (by decide) e
/-- a list that lies apart from all that the queue knows -/
structure New8 (B : Nat) (L : Nat → List Value) (x : Value) : Prop where
  lb : ∀ b, x.ownBlock = some b → B ≤ b
  f : ∀ (j : Nat) y b, (L 0)[j]? = some y → x.ownBlock = some b → ¬ y.ownBlock = some b
  k : ∀ (l : Nat) y b, (L 2)[l]? = some y ∨ (L 3)[l]? = some y → x.ownBlock = some b → ¬ y.ownBlock = some b
theorem get_snocZ {α : Type} {A : List α} {x y : α} {j : Nat} (h : (A ++ [x])[j]? = some y) : (j < A.length ∧ A[j]? = some y) ∨ (j = A.length ∧ y = x) := by
  by_cases hj : j < A.length
  · rw [List.getElem?_append_left hj] at h; exact .inl ⟨hj, h⟩
  · have hl := (List.getElem?_eq_some_iff.1 h).1
    rw [List.length_append, List.length_singleton] at hl
    have he : j = A.length := by omega
    subst he
    rw [List.getElem?_append_right (Nat.le_refl _), Nat.sub_self] at h
    simp at h
    exact .inr ⟨rfl, h.symm⟩
/-- a list and its copy are taken -/
theorem ZI.take {B : Nat} {w w' : World} {p : Nat} {ct tt c' t' : Int} {r r' : Nat → Value} {L L' : Nat → List Value} (h : ZI B w p ct tt r L) {x u : Value} {N : List Fs} (hn : New8 B L x) (hN : N.length ≤ 100000000000) (hx : OwZ 0 x N w) (hu : OwZ 0 u N w') (hs : ShZ w' p c' t' r' L') (l0 : L' 0 = L 0 ++ [x]) (l1 : L' 1 = L 1 ++ [u]) (l2 : L' 2 = L 2) (l3 : L' 3 = L 3) (c : Chg (SOwZ p r) w w')
    (r0 : ∀ b, (r' 0).ownBlock = some b → (r 0).ownBlock = some b ∨ w.heap.size ≤ b) (r1 : ∀ b, (r' 1).ownBlock = some b → (r 1).ownBlock = some b ∨ w.heap.size ≤ b) (r2 : r' 2 = r 2) (r3 : r' 3 = r 3) : ZI B w' p c' t' r' L' := by
  have kp : ∀ B v N, OwZ B v N w → OwZ B v N w' := fun B v N hv => hv.chg c (fun b hb hs => h.sh.sow hv hb hs)
  have hpB : B ≤ p := h.lb p (.inl rfl)
  have hpw := h.sh.lt
  obtain ⟨ax, cx, ex⟩ := own_form hx
  obtain ⟨au, cu, eu⟩ := own_form hu
  have kpp : ∀ X Y, PrZ w X Y → PrZ w' X Y := fun X Y hp i x y hx hy => by
    obtain ⟨N, a1, c1, a2, c2, e1, e2, o1, o2, hb⟩ := hp i x y hx hy
    exact ⟨N, a1, c1, a2, c2, e1, e2, kp _ _ _ o1, kp _ _ _ o2, hb⟩
  refine ⟨hs, by rw [l0, l1]; simp [h.wl], by rw [l2, l3]; exact h.kl, ?_, by rw [l2, l3]; exact kpp _ _ h.pk, ?_, ?_, ?_, ?_⟩
  · rw [l0, l1]
    intro i y z hy hz
    rcases get_snocZ hy with ⟨hi, hy⟩ | ⟨hi, rfl⟩
    · rcases get_snocZ hz with ⟨_, hz⟩ | ⟨hi2, _⟩
      · exact kpp _ _ h.pf i y z hy hz
      · have := h.wl; omega
    · rcases get_snocZ hz with ⟨hi2, _⟩ | ⟨_, rfl⟩
      · have := h.wl; omega
      · exact ⟨N, ax, cx, au, cu, ex, eu, kp _ _ _ hx, hu, by omega⟩
  · rw [l0]
    intro y hy
    rcases List.mem_append.1 hy with hy | hy
    · obtain ⟨M, h1, h2⟩ := h.bl y hy
      exact ⟨M, h1, kp _ _ _ h2⟩
    · rw [List.mem_singleton.1 hy]
      exact ⟨N, hN, kp _ _ _ hx⟩
  · rw [l0]
    intro i j y z hy hz hij b hb hzb
    rcases get_snocZ hy with ⟨_, hy'⟩ | ⟨hi, e1⟩
    · rcases get_snocZ hz with ⟨_, hz'⟩ | ⟨_, e2⟩
      · exact h.ds i j y z hy' hz' hij b hb hzb
      · exact hn.f i y b hy' (by rw [← e2]; exact hzb) hb
    · rcases get_snocZ hz with ⟨_, hz'⟩ | ⟨hj, _⟩
      · exact hn.f j z b hz' (by rw [← e1]; exact hb) hzb
      · omega
  · rw [l0, l2, l3]
    intro l y b hy hb j z hz
    rcases get_snocZ hz with ⟨_, hz⟩ | ⟨_, rfl⟩
    · exact h.ap l y b hy hb j z hz
    · exact fun e => hn.k l y b hy e hb
  · intro b hb
    rcases hb with e | ⟨j, hj, e⟩ | ⟨y, hy, e⟩
    · rw [e]; exact hpB
    · obtain rfl | rfl | rfl | rfl : j = 0 ∨ j = 1 ∨ j = 2 ∨ j = 3 := by omega
      · rcases r0 b e with e | e
        · exact h.lb b (.inr (.inl ⟨0, by omega, e⟩))
        · omega
      · rcases r1 b e with e | e
        · exact h.lb b (.inr (.inl ⟨1, by omega, e⟩))
        · omega
      · rw [r2] at e; exact h.lb b (.inr (.inl ⟨2, by omega, e⟩))
      · rw [r3] at e; exact h.lb b (.inr (.inl ⟨3, by omega, e⟩))
    · rw [l0] at hy
      rcases List.mem_append.1 hy with hy | hy
      · exact h.lb b (.inr (.inr ⟨y, hy, e⟩))
      · rw [List.mem_singleton.1 hy] at e; exact hn.lb b e
/-- what Own leaves behind -/
def OwnZ (B : Nat) (w : World) (p : Nat) (c' t' : Int) (r : Nat → Value) (L : Nat → List Value) (x : Value) (w' : World) : Prop :=
  ∃ r' L', ZI B w' p c' t' r' L' ∧ (L' 0).length ≤ 2 ∧ (L' 2).length ≤ (L 2).length + 12 ∧ Chg (fun b => ZSZ p r (L 0) b ∨ x.ownBlock = some b) w w'
set_option maxRecDepth 20000 in
set_option maxHeartbeats 4000000 in
theorem ownZ_any (B : Nat) (w : World) (p : Nat) (ct tt : Int) (r : Nat → Value) (L : Nat → List Value) (h : ZI B w p ct tt r L) (hF : (L 0).length ≤ 2) (hK : (L 2).length ≤ 500000000000) (ct0 : 0 ≤ ct) (ct1 : ct ≤ 900000000000) (t0 : 0 ≤ tt) (t1 : tt ≤ 800000000000000) (a : Option Addr) (n c : Nat) (N : List Fs) (hNl : N.length = n) (hN : n ≤ 100000000000) (hx : OwZ 0 (.slice a n c) N w) (hnew : New8 B L (.slice a n c)) :
    Calls Try.prog 41 #[.pointer (some ⟨p, 0, none⟩), .slice a n c] w fun e w' => (∃ q, e = .returned q) ∧ OwnZ B w p (ct + 1) (tt + n) r L (.slice a n c) w' := by
  obtain ⟨i0, hi, hz0, hz1, hz2⟩ := info_parts infoZl
  obtain ⟨a2, c2, e2⟩ := own_form (h.sh.row 0 (by omega))
  obtain ⟨a3, c3, e3⟩ := own_form (h.sh.row 1 (by omega))
  have k0 : w.cell? ⟨p, 0, none⟩ = some (.int .i64 ct) := by rw [cell_atL h.sh.st]; rfl
  have f0 := frozen_atL h.sh.st 0
  have s1 := set_atL h.sh.st 0 (.int .i64 (ct + 1))
  have k1 : (w.setCell ⟨p, 0, none⟩ (.int .i64 (ct + 1))).cell? ⟨p, 1, none⟩ = some (.int .i64 tt) := by rw [cell_atL s1]; rfl
  have f1 := frozen_atL s1 1
  obtain ⟨hS2, hC2⟩ := h.sh.cnt (ct + 1) (tt + n)
  have HI := hidOf h
  have HX := hidOf hx
  have HNl := hidOf hNl
  have HNw := hidOf hnew
  have E2 := hidOf e2
  have E3 := hidOf e3
  have S2 := hidOf hS2
  have C2 := hidOf hC2
  have hl1 : (L 1).length ≤ 2 := by have := h.wl; omega
  clear h hx hnew hNl e2 e3 s1 hS2 hC2
  go_enter Try.func41, Try.ntmps41
  go_upto_region 2 with fail
  clear k0 f0 k1 f1
  generalize (w.setCell ⟨p, 0, none⟩ (.int .i64 (ct + 1))).setCell ⟨p, 1, none⟩ (.int .i64 (tt + n)) = w2 at *
  have k3 : w2.cell? ⟨p, 3, none⟩ = some (.slice a2 (L 0).length c2) := by rw [cell_atL S2.out.st, ← E2.out]; rfl
  have R2 : Hid (∀ O, (w2.alloc O).ownsRow 0 38 1 (.slice a2 (L 0).length c2) (L 0).length (L 0)) := fun O => by
    have := (S2.out.out ((Out.refl w2).alloc O)).row 0 (by omega)
    rw [E2.out] at this; exact this
  have HP : Hid (∀ O w8, (w2.alloc O).grownBy w8 (Value.slice a2 (L 0).length c2).ownBlock → w8.cell? ⟨p, 3, none⟩ = some (.slice a2 (L 0).length c2) ∧ w8.frozen? ⟨p, 3, none⟩ = false) := fun O w8 hg => by
    have hA := S2.out.out ((Out.refl w2).alloc O)
    have hs : w8.heap[p]? = _ := (hg.block p hA.lt (fun e => hA.notp (j := 0) (by omega) (by rw [E2.out]; exact e.symm))).trans hA.st
    exact ⟨by rw [cell_atL hs, ← E2.out]; rfl, frozen_atL hs 3⟩
  go_upto_region 3 with (at_builtin; refine wpList_append_lies _ rfl (.tmp 25) (.tmp 27) 27 rfl 0 38 i0 _ 1 24 Try.underlying27 hi hz0 hz1 hz2 rfl (by decide) (.slice a2 (L 0).length c2) (L 0).length (L 0) rfl (R2.out _) ⟨w2.heap.size, 0, none⟩ 1 1 [.slice a n c] rfl rfl (news_new w2 _ _ _ rfl) (by intro u hu; simp at hu; subst hu; rfl) (by decide) (by unfold maxLen; omega) (by omega) (Nat.zero_le _) _ rfl ?_; intro g8 cap8 w8 hown8 hgrow8 hg8 hlt8; obtain ⟨q8, f8⟩ := HP.out _ w8 hgrow8; have W8 := hidOf hown8; have G8 := hidOf hgrow8; have Hg8 := hidOf hg8; clear hown8 hgrow8 hg8 hlt8)
  have B8 : Hid (∀ b, (Value.slice (some ⟨g8, 0, none⟩) ((L 0).length + 1) cap8).ownBlock = some b → (r 0).ownBlock = some b ∨ w2.heap.size ≤ b) := fun b hb => by
    simp [Value.ownBlock] at hb
    subst hb
    rcases Hg8.out with h | h
    · exact .inl (by rw [E2.out]; exact h)
    · right; rw [h, size_alloc]; omega
  have hP := S2.out.push 0 (by omega) ((Out.refl w2).alloc _) (by rw [E2.out]; exact G8.out) W8.out B8.out
  have S8 := hidOf hP.1
  have C8 := hidOf hP.2
  clear hP G8 W8 Hg8 R2 HP k3 q8 f8
  have hz : (3 : Nat) + 0 = 3 := rfl
  rw [hz] at S8 C8
  clear hz
  generalize w8.setCell ⟨p, 3, none⟩ (.slice (some ⟨g8, 0, none⟩) ((L 0).length + 1) cap8) = w4 at *
  have C4 : Hid (Chg (SOwZ p r) w w4) := hidOf ((C2.out.mono (fun b hb _ => .inl hb)).trans C8.out (fun b hb _ => by
    rcases hb with e | e
    · exact .inl e
    · exact .inr (.inl e)))
  have X4 : Hid (OwZ 0 (.slice a n c) N w4) := hidOf (HX.out.chg C4.out (fun b hb hs => HI.out.sh.sow HX.out hb hs))
  have k6 : w4.drew.cell? ⟨p, 4, none⟩ = some (.slice a3 (L 1).length c3) := by
    rw [cell_atL (show w4.drew.heap[p]? = _ from S8.out.st), ← E3.out]; rfl
  have CT : Hid (Calls Try.prog 67 #[.slice a n c] w4.drew fun e w' => ∃ ad cc, e = .returned (.slice ad n cc) ∧ OwZ 0 (.slice ad n cc) N w' ∧ (∀ b, (Value.slice ad n cc).ownBlock = some b → w4.drew.heap.size ≤ b) ∧ Out w4.drew w') := hidOf (copied9_any w4.drew a n c N HNl.out (X4.out.out (Out.refl w4).drew) (by omega))
  have R3 : Hid (∀ wx O, Out w4.drew wx → (wx.alloc O).ownsRow 0 38 1 (.slice a3 (L 1).length c3) (L 1).length (L 1)) := fun wx O ho => by
    have := (S8.out.out (((Out.refl w4).drew.trans ho).alloc O)).row 1 (by omega)
    rw [← E3.out]; exact this
  have HP3 : Hid (∀ wx O w9, Out w4.drew wx → (wx.alloc O).grownBy w9 (Value.slice a3 (L 1).length c3).ownBlock → w9.cell? ⟨p, 4, none⟩ = some (.slice a3 (L 1).length c3) ∧ w9.frozen? ⟨p, 4, none⟩ = false) := fun wx O w9 ho hg => by
    have hA := S8.out.out (((Out.refl w4).drew.trans ho).alloc O)
    have hs : w9.heap[p]? = _ := (hg.block p hA.lt (fun e => hA.notp (j := 1) (by omega) (by show (r 1).ownBlock = _; rw [E3.out]; exact e.symm))).trans hA.st
    exact ⟨by rw [cell_atL hs, ← E3.out]; rfl, frozen_atL hs 4⟩
  go_region_law (first | (refine step_append_lies _ rfl (.tmp 35) (.tmp 38) 27 rfl 0 38 i0 _ 1 24 Try.underlying27 hi hz0 hz1 hz2 rfl (by decide) (.slice a3 (L 1).length c3) (L 1).length (L 1) rfl (R3.out w5 _ Ho5.out) ⟨w5.heap.size, 0, none⟩ 1 1 [.slice a5 n c5] rfl rfl (news_new w5 _ _ _ rfl) (by intro u hu; simp at hu; subst hu; rfl) (by decide) (by unfold maxLen; omega) (by omega) (Nat.zero_le _) _ rfl ?_; intro g9 cap9 w9 hown9 hgrow9 hg9 hlt9; obtain ⟨q9, f9⟩ := HP3.out w5 _ w9 Ho5.out hgrow9; have W9 := hidOf hown9; have G9 := hidOf hgrow9; have Hg9 := hidOf hg9; clear hown9 hgrow9 hg9 hlt9) | (go_simp; go_at_call 67; refine CT.out.mono ?_; rintro e w5 ⟨a5, c5, rfl, hown5, hnew5, ho5⟩; (try dsimp only); have Ho5 := hidOf ho5; have Hown5 := hidOf hown5; have Hnew5 := hidOf hnew5; have k65 : w5.cell? ⟨p, 4, none⟩ = some (.slice a3 (L 1).length c3) := cell_later ho5 k6; have k65a : (w5.alloc (.cells #[.slice a5 n c5] 38)).cell? ⟨p, 4, none⟩ = some (.slice a3 (L 1).length c3) := cell_later ((Out.refl w5).alloc _) k65; clear hown5 ho5 hnew5))
  all_goals
    have B9 : Hid (∀ b, (Value.slice (some ⟨g9, 0, none⟩) ((L 1).length + 1) cap9).ownBlock = some b → (r 1).ownBlock = some b ∨ w5.heap.size ≤ b) := fun b hb => by
      simp [Value.ownBlock] at hb
      subst hb
      rcases Hg9.out with h | h
      · exact .inl (by rw [E3.out]; exact h)
      · right; rw [h, size_alloc]; omega
    have o45 : Hid (Out w4 w5) := hidOf ((Out.refl w4).drew.trans Ho5.out)
    have hP := (S8.out.out o45.out).push 1 (by omega) ((Out.refl w5).alloc _) (by show World.grownBy _ _ (r 1).ownBlock; rw [E3.out]; exact G9.out) W9.out B9.out
    have S9 := hidOf hP.1
    have C9 := hidOf hP.2
    have hz : (3 : Nat) + 1 = 4 := rfl
    rw [hz] at S9 C9
    clear hP q9 f9 k65 k65a k6 hz
    generalize w9.setCell ⟨p, 4, none⟩ (.slice (some ⟨g9, 0, none⟩) ((L 1).length + 1) cap9) = w10 at *
    have hle : Hid (w.heap.size ≤ w2.heap.size ∧ w.heap.size ≤ w5.heap.size) := hidOf ⟨C2.out.size, Nat.le_trans C4.out.size o45.out.size⟩
    have C10 : Hid (Chg (SOwZ p r) w w10) := hidOf ((C4.out.then_out o45.out).trans C9.out (fun b hb _ => by
      rcases hb with e | e
      · exact .inl e
      · exact .inr (.inr e)))
    have U10 : Hid (OwZ 0 (.slice a5 n c5) N w10) := hidOf (Hown5.out.chg C9.out (fun b hb hs => by
      have hq := S8.out.out o45.out
      obtain ⟨_, cs, hc⟩ := own_blkZ Hown5.out hb
      rcases hs with e | e
      · have := hq.st; rw [← e, hc] at this; simp at this
      · exact own_kind (hq.row 1 (by omega)) hc (by decide) e))
    have ZI10 := hidOf (HI.out.take HNw.out (by rw [HNl.out]; exact hN) HX.out U10.out S9.out rfl rfl rfl rfl C10.out (fun b hb => (B8.out b hb).imp id (fun h => Nat.le_trans hle.out.1 h)) (fun b hb => (B9.out b hb).imp id (fun h => Nat.le_trans hle.out.2 h)) rfl rfl)
    have FIN : Hid (∀ w', Chg (ZSZ p (upd (upd r 0 (.slice (some ⟨g8, 0, none⟩) ((L 0).length + 1) cap8)) 1 (.slice (some ⟨g9, 0, none⟩) ((L 1).length + 1) cap9)) (L 0 ++ [.slice a n c])) w10 w' → Chg (fun b => ZSZ p r (L 0) b ∨ (Value.slice a n c).ownBlock = some b) w w') := hidOf (fun w' c => by
      refine (C10.out.mono (fun b hb _ => ?_)).trans c (fun b hb hlt => ?_)
      · rcases hb with e | e | e
        · exact .inl (.inl e)
        · exact .inl (.inr (.inl ⟨0, by omega, e⟩))
        · exact .inl (.inr (.inl ⟨1, by omega, e⟩))
      · rcases hb with e | ⟨j, hj, e⟩ | ⟨y, hy, e⟩
        · exact .inl (.inl e)
        · obtain rfl | rfl | rfl | rfl : j = 0 ∨ j = 1 ∨ j = 2 ∨ j = 3 := by omega
          · rcases B8.out b e with e | e
            · exact .inl (.inr (.inl ⟨0, by omega, e⟩))
            · have := hle.out.1; omega
          · rcases B9.out b e with e | e
            · exact .inl (.inr (.inl ⟨1, by omega, e⟩))
            · have := hle.out.2; omega
          · exact .inl (.inr (.inl ⟨2, by omega, e⟩))
          · exact .inl (.inr (.inl ⟨3, by omega, e⟩))
        · rcases List.mem_append.1 hy with hy | hy
          · exact .inl (.inr (.inr ⟨y, hy, e⟩))
          · rw [List.mem_singleton.1 hy] at e; exact .inr e)
    have k0 : w10.cell? ⟨p, 0, none⟩ = some (.int .i64 (ct + 1)) := by rw [cell_atL S9.out.st]; rfl
    have k3 : w10.cell? ⟨p, 3, none⟩ = some (.slice (some ⟨g8, 0, none⟩) ((L 0).length + 1) cap8) := by rw [cell_atL S9.out.st]; rfl
    have hwi := hidOf (writeZ_any B w10 p (ct + 1) (tt + n) _ _ ZI10.out (by show (L 0 ++ [_]).length ≤ 3; rw [List.length_append]; simp; omega) (by show (L 2).length ≤ _; omega) (by omega) (by omega) (by omega) (by omega))
    have Stay : Hid ((L 0).length ≤ 1 → OwnZ B w p (ct + 1) (tt + n) r L (.slice a n c) w10) := fun hl => ⟨_, _, ZI10.out, by show (L 0 ++ [_]).length ≤ 2; rw [List.length_append]; simp; omega, Nat.le_add_right _ _, FIN.out _ (Chg.refl _ _)⟩
    have Wrt : Hid (∀ w', WrZ B w10 p (ct + 1) (tt + n) (upd (upd r 0 (.slice (some ⟨g8, 0, none⟩) ((L 0).length + 1) cap8)) 1 (.slice (some ⟨g9, 0, none⟩) ((L 1).length + 1) cap9)) (upd (upd L 0 (L 0 ++ [.slice a n c])) 1 (L 1 ++ [.slice a5 n c5])) ((L 2).length + 4 * (L 0 ++ [Value.slice a n c]).length) w' → OwnZ B w p (ct + 1) (tt + n) r L (.slice a n c) w') := fun w' hw => by
      obtain ⟨r', L', h1, h2, h3, h4⟩ := hw
      refine ⟨r', L', h1, by rw [h2]; simp, ?_, FIN.out _ h4⟩
      rw [h3, List.length_append, List.length_singleton]
      omega
    clear S9 C9 S8 C8 S2 C2 B8 B9 X4 CT R3 HP3 Ho5 Hown5 Hnew5 W9 G9 Hg9 U10 ZI10 FIN C10 C4 hle o45
    have ht : (ct + 1).tmod 4 = (ct + 1) % 4 := Int.tmod_eq_emod_of_nonneg (by omega)
    rcases (show (L 0).length = 0 ∨ (L 0).length = 1 ∨ (L 0).length = 2 by omega) with h0 | h0 | h0
    · rw [h0] at k3
      cases h4 : ((ct + 1) % 4 == 0)
      · have h5 : ((ct + 1).tmod 4 == 0) = false := by rw [ht]; exact h4
        clear ht
        go_wp2
        go_end0
        exact ⟨⟨_, rfl⟩, Stay.out (by omega)⟩
      · have h5 : ((ct + 1).tmod 4 == 0) = true := by rw [ht]; exact h4
        clear ht
        go_wp2_with (go_at_call 68; refine hwi.out.mono ?_; rintro e w' ⟨⟨q, rfl⟩, hend⟩)
        go_end0
        exact ⟨⟨_, rfl⟩, Wrt.out _ hend⟩
    · rw [h0] at k3
      clear ht
      go_wp2
      go_end0
      exact ⟨⟨_, rfl⟩, Stay.out (by omega)⟩
    · rw [h0] at k3
      clear ht
      go_wp2_with (go_at_call 68; refine hwi.out.mono ?_; rintro e w' ⟨⟨q, rfl⟩, hend⟩)
      go_end0
      exact ⟨⟨_, rfl⟩, Wrt.out _ hend⟩
end Go.Proofs.Ytlfcjbeldnkkoaa
