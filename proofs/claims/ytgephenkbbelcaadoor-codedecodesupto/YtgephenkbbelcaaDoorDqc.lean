import Derived.Test.YtgephenkbbelcaaDoorDqb
import Derived.Deep.AppendLies
namespace Go.Proofs.YtgephenkbbelcaaDoor
open Go.RowKit
set_option linter.unusedVariables false
set_option linter.unusedSimpArgs false
def upd {α : Type} (r : Nat → α) (j : Nat) (v : α) : Nat → α := fun i => if i = j then v else r i
theorem QF.notp {w : World} {p : Nat} {mk tt : Int} {r : Nat → Value} {L : Nat → List Value} (h : QF w p mk tt r L) {j : Nat} (hj : j < 4) : ¬ (r j).ownBlock = some p := own_kind (h.row j hj) h.st (by decide)
/-- a row's cell is stored -/
theorem QF.store {w : World} {p : Nat} {mk tt : Int} {r : Nat → Value} (st : w.heap[p]? = some (.cells #[.int .i64 mk, .int .i64 tt, .bool false, r 0, r 1, r 2, r 3] 28 (0, 0))) (j : Nat) (hj : j < 4) (v : Value) (L : Nat → List Value)
    (row : ∀ i, i < 4 → w.ownsRow 0 30 1 (upd r j v i) (L i).length (L i)) (sep : ∀ i k b, i < 4 → k < 4 → ¬ i = k → (upd r j v i).ownBlock = some b → ¬ (upd r j v k).ownBlock = some b) : QF (w.setCell ⟨p, 3 + j, none⟩ v) p mk tt (upd r j v) L := by
  have c : Chg (fun k => k = p) w (w.setCell ⟨p, 3 + j, none⟩ v) := Chg.setCell (S := fun k => k = p) (Chg.refl _ w) (p := ⟨p, 3 + j, none⟩) rfl v
  refine ⟨?_, fun i hi => owns_chg (row i hi) (fun k hk e => own_kind (row i hi) st (by decide) (by rw [hk, e])) c, sep⟩
  rw [set_atL st]
  obtain rfl | rfl | rfl | rfl : j = 0 ∨ j = 1 ∨ j = 2 ∨ j = 3 := by omega
  all_goals rfl
/-- a row has one more -/
theorem QF.push {w wA w8 : World} {p : Nat} {mk tt : Int} {r : Nat → Value} {L : Nat → List Value} (h : QF w p mk tt r L) (j : Nat) (hj : j < 4) (o : Out w wA) {v x : Value} (hgrow : wA.grownBy w8 (r j).ownBlock) (hown : w8.ownsRow 0 30 1 v ((L j).length + 1) (L j ++ [x])) (hv : ∀ b, v.ownBlock = some b → (r j).ownBlock = some b ∨ w.heap.size ≤ b) :
    QF (w8.setCell ⟨p, 3 + j, none⟩ v) p mk tt (upd r j v) (upd L j (L j ++ [x])) ∧ Chg (fun b => b = p ∨ (r j).ownBlock = some b) w (w8.setCell ⟨p, 3 + j, none⟩ v) := by
  have hA := h.out o
  have c8 : Chg (fun b => (r j).ownBlock = some b) wA w8 := Chg.of_grown hgrow (fun k h => h)
  have st8 : w8.heap[p]? = _ := (c8.block p hA.lt (fun e => hA.notp hj e)).trans hA.st
  refine ⟨QF.store st8 j hj v _ (fun i hi => ?_) (fun i k b hi hk hne hib hkb => ?_), ((Chg.of_out (S := fun b => b = p ∨ (r j).ownBlock = some b) o).trans c8 (fun x hx _ => .inr hx)).setCell (p := ⟨p, 3 + j, none⟩) (.inl rfl) _⟩
  · unfold upd
    by_cases hij : i = j
    · rw [if_pos hij, if_pos hij, List.length_append, List.length_singleton]; exact hown
    · rw [if_neg hij, if_neg hij]
      exact owns_chg (hA.row i hi) (fun k hk e => h.sep i j k hi hj hij hk e) c8
  · unfold upd at hib hkb
    by_cases hij : i = j
    · have hkj : ¬ k = j := fun e => hne (hij.trans e.symm)
      rw [if_pos hij] at hib
      rw [if_neg hkj] at hkb
      rcases hv b hib with h1 | h1
      · exact h.sep k j b hk hj hkj hkb h1
      · have := ((h.row k hk).lt b hkb).2; omega
    · rw [if_neg hij] at hib
      by_cases hkj : k = j
      · rw [if_pos hkj] at hkb
        rcases hv b hkb with h1 | h1
        · exact h.sep i j b hi hj hij hib h1
        · have := ((h.row i hi).lt b hib).2; omega
      · rw [if_neg hkj] at hkb
        exact h.sep i k b hi hk hne hib hkb
theorem infoSyl : (Tryd.prog.info? 30).map (fun i => (i.zero, i.size, i.bytes)) = some (some (.slice none 0 0), 1, 24) := by kernel_rfl
/-- the shelf's own blocks that a keeping writes -/
def SOQ (p : Nat) (r : Nat → Value) (b : Nat) : Prop := b = p ∨ (r 2).ownBlock = some b ∨ (r 3).ownBlock = some b
/-- what a keeping leaves behind -/
def KpQ (w : World) (p : Nat) (mk tt : Int) (r : Nat → Value) (L : Nat → List Value) (x y : Value) (w' : World) : Prop :=
  ∃ v2 v3, QF w' p mk tt (upd (upd r 2 v2) 3 v3) (upd (upd L 2 (L 2 ++ [x])) 3 (L 3 ++ [y])) ∧ Chg (SOQ p r) w w' ∧ (∀ b, v2.ownBlock = some b → (r 2).ownBlock = some b ∨ w.heap.size ≤ b) ∧ (∀ b, v3.ownBlock = some b → (r 3).ownBlock = some b ∨ w.heap.size ≤ b)
set_option maxRecDepth 20000 in
set_option maxHeartbeats 1000000 in
theorem keepQ_any (w : World) (p : Nat) (mk tt : Int) (r : Nat → Value) (L : Nat → List Value) (h : QF w p mk tt r L) (hK : (L 2).length ≤ 1000000000000) (hl2 : (L 3).length = (L 2).length) (a a' : Option Addr) (n c n' c' : Nat) :
    Calls Tryd.prog 33 #[.pointer (some ⟨p, 0, none⟩), .slice a n c, .slice a' n' c'] w fun e w' => (∃ q, e = .returned q) ∧ KpQ w p mk tt r L (.slice a n c) (.slice a' n' c') w' := by
  obtain ⟨i0, hi, hz0, hz1, hz2⟩ := info_parts infoSyl
  obtain ⟨a2, c2, e2⟩ := own_form (h.row 2 (by omega))
  obtain ⟨a3, c3, e3⟩ := own_form (h.row 3 (by omega))
  have k5 : w.cell? ⟨p, 5, none⟩ = some (.slice a2 (L 2).length c2) := by rw [cell_atL h.st, ← e2]; rfl
  have H := hidOf h
  have E2 := hidOf e2
  have E3 := hidOf e3
  have R2 : Hid (∀ O, (w.alloc O).ownsRow 0 30 1 (.slice a2 (L 2).length c2) (L 2).length (L 2)) := fun O => by
    have := (h.out ((Out.refl w).alloc O)).row 2 (by omega)
    rw [e2] at this; exact this
  have HP : Hid (∀ O w8, (w.alloc O).grownBy w8 (Value.slice a2 (L 2).length c2).ownBlock → w8.cell? ⟨p, 5, none⟩ = some (.slice a2 (L 2).length c2) ∧ w8.frozen? ⟨p, 5, none⟩ = false) := fun O w8 hg => by
    have hA := h.out ((Out.refl w).alloc O)
    have hs : w8.heap[p]? = _ := (hg.block p hA.lt (fun e => hA.notp (j := 2) (by omega) (by rw [e2]; exact e.symm))).trans hA.st
    exact ⟨by rw [cell_atL hs, ← e2]; rfl, frozen_atL hs 5⟩
  have hl3 : (L 3).length ≤ 1000000000000 := by omega
  clear h hl2 e2 e3
  go_enter Tryd.func33, Tryd.ntmps33
  go_upto_region 1 with (at_builtin; refine wpList_append_lies _ rfl (.tmp 10) (.tmp 12) 26 rfl 0 30 i0 _ 1 24 Tryd.underlying26 hi hz0 hz1 hz2 rfl (by decide) (.slice a2 (L 2).length c2) (L 2).length (L 2) rfl (R2.out _) ⟨w.heap.size, 0, none⟩ 1 1 [.slice a n c] rfl rfl (news_new w _ _ _ rfl) (by intro u hu; simp at hu; subst hu; rfl) (by decide) (by unfold maxLen; omega) (by omega) (Nat.zero_le _) _ rfl ?_; intro g8 cap8 w8 hown8 hgrow8 hg8 hlt8; obtain ⟨q8, f8⟩ := HP.out _ w8 hgrow8; have W8 := hidOf hown8; have G8 := hidOf hgrow8; have Hg8 := hidOf hg8; clear hown8 hgrow8 hg8 hlt8)
  have B8 : Hid (∀ b, (Value.slice (some ⟨g8, 0, none⟩) ((L 2).length + 1) cap8).ownBlock = some b → (r 2).ownBlock = some b ∨ w.heap.size ≤ b) := fun b hb => by
    simp [Value.ownBlock] at hb
    subst hb
    rcases Hg8.out with h | h
    · exact .inl (by rw [E2.out]; exact h)
    · right; rw [h, size_alloc]; omega
  have hP := H.out.push 2 (by omega) ((Out.refl w).alloc _) (by rw [E2.out]; exact G8.out) W8.out B8.out
  have S8 := hidOf hP.1
  have C8 := hidOf hP.2
  clear hP G8 W8 Hg8 R2 HP k5 q8 f8
  have hz : (3 : Nat) + 2 = 5 := rfl
  rw [hz] at S8 C8
  clear hz
  generalize w8.setCell ⟨p, 5, none⟩ (.slice (some ⟨g8, 0, none⟩) ((L 2).length + 1) cap8) = w4 at *
  have k6 : w4.cell? ⟨p, 6, none⟩ = some (.slice a3 (L 3).length c3) := by
    rw [cell_atL S8.out.st, ← E3.out]; rfl
  have R3 : Hid (∀ O, (w4.alloc O).ownsRow 0 30 1 (.slice a3 (L 3).length c3) (L 3).length (L 3)) := fun O => by
    have := (S8.out.out ((Out.refl w4).alloc O)).row 3 (by omega)
    rw [← E3.out]; exact this
  have HP3 : Hid (∀ O w9, (w4.alloc O).grownBy w9 (Value.slice a3 (L 3).length c3).ownBlock → w9.cell? ⟨p, 6, none⟩ = some (.slice a3 (L 3).length c3) ∧ w9.frozen? ⟨p, 6, none⟩ = false) := fun O w9 hg => by
    have hA := S8.out.out ((Out.refl w4).alloc O)
    have hs : w9.heap[p]? = _ := (hg.block p hA.lt (fun e => hA.notp (j := 3) (by omega) (by show (r 3).ownBlock = _; rw [E3.out]; exact e.symm))).trans hA.st
    exact ⟨by rw [cell_atL hs, ← E3.out]; rfl, frozen_atL hs 6⟩
  go_wp2_with (at_builtin; refine wpList_append_lies _ rfl (.tmp 20) (.tmp 22) 26 rfl 0 30 i0 _ 1 24 Tryd.underlying26 hi hz0 hz1 hz2 rfl (by decide) (.slice a3 (L 3).length c3) (L 3).length (L 3) rfl (R3.out _) ⟨w4.heap.size, 0, none⟩ 1 1 [.slice a' n' c'] rfl rfl (news_new w4 _ _ _ rfl) (by intro u hu; simp at hu; subst hu; rfl) (by decide) (by unfold maxLen; omega) (by omega) (Nat.zero_le _) _ rfl ?_; intro g9 cap9 w9 hown9 hgrow9 hg9 hlt9; obtain ⟨q9, f9⟩ := HP3.out _ w9 hgrow9; have W9 := hidOf hown9; have G9 := hidOf hgrow9; have Hg9 := hidOf hg9; clear hown9 hgrow9 hg9 hlt9)
  have B9 : Hid (∀ b, (Value.slice (some ⟨g9, 0, none⟩) ((L 3).length + 1) cap9).ownBlock = some b → (r 3).ownBlock = some b ∨ w4.heap.size ≤ b) := fun b hb => by
    simp [Value.ownBlock] at hb
    subst hb
    rcases Hg9.out with h | h
    · exact .inl (by rw [E3.out]; exact h)
    · right; rw [h, size_alloc]; omega
  have hP := S8.out.push 3 (by omega) ((Out.refl w4).alloc _) (by show World.grownBy _ _ (r 3).ownBlock; rw [E3.out]; exact G9.out) W9.out B9.out
  have S9 := hidOf hP.1
  have C9 := hidOf hP.2
  clear hP q9 f9
  go_end0
  have z1 := C8.out.size
  refine ⟨⟨_, rfl⟩, _, _, S9.out, ?_, B8.out, fun b hb => (B9.out b hb).imp id (fun h => by omega)⟩
  refine (C8.out.mono (fun b hb _ => ?_)).trans C9.out (fun b hb _ => ?_)
  · rcases hb with h | h
    · exact .inl h
    · exact .inr (.inl h)
  · rcases hb with h | h
    · exact .inl h
    · exact .inr (.inr h)
end Go.Proofs.YtgephenkbbelcaaDoor
