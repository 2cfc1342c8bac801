import Derived.Test.YtikmaoigepoeoaaSvf
namespace Go.Proofs.Ytikmaoigepoeoaa
open Go.RowKit
set_option linter.unusedVariables false
set_option linter.unusedSimpArgs false
/-- the lists with marks in the first i of them -/
def mixF : List (Value × List Int) → List Int → Nat → List (Value × List Int)
  | x :: F, m :: M, i + 1 => (x.1, markB x.2.length m) :: mixF F M i
  | F, _, _ => F
theorem mixF_zero (F : List (Value × List Int)) (M : List Int) : mixF F M 0 = F := by cases F <;> cases M <;> rfl
theorem mixF_step : ∀ (F : List (Value × List Int)) (M : List Int) (i : Nat) (x : Value × List Int) (m : Int), F[i]? = some x → M[i]? = some m → (mixF F M i)[i]? = some x ∧ mixF F M (i + 1) = (mixF F M i).set i (x.1, markB x.2.length m)
  | [], _, _, _, _, h, _ => by simp at h
  | _ :: _, [], _, _, _, _, h => by simp at h
  | y :: F, n :: M, 0, x, m, h, k => by
    simp at h k; subst h k
    refine ⟨rfl, ?_⟩
    show (y.1, markB y.2.length n) :: mixF F M 0 = _
    rw [mixF_zero, mixF_zero]; rfl
  | y :: F, n :: M, i + 1, x, m, h, k => by
    obtain ⟨h1, h2⟩ := mixF_step F M i x m (by simpa using h) (by simpa using k)
    refine ⟨by simpa [mixF] using h1, ?_⟩
    show (y.1, markB y.2.length n) :: mixF F M (i + 1) = _
    rw [h2]; rfl
theorem mixF_len : ∀ (F : List (Value × List Int)) (M : List Int) (i : Nat), (mixF F M i).length = F.length
  | [], _, _ => by simp [mixF]
  | _ :: _, [], _ => by simp [mixF]
  | _ :: _, _ :: _, 0 => by simp [mixF]
  | _ :: F, _ :: M, i + 1 => by simp [mixF, mixF_len F M i]
/-- a store into an own row -/
theorem owns_store {B n : Nat} {w : World} {g c : Nat} {l : List Int} (h : w.ownsRow B 5 1 (.slice (some ⟨g, 0, none⟩) n c) n (bV l)) {k : Nat} (hk : k < n) (z : Int) : (w.setCell ⟨g, k, none⟩ (.int .u8 z)).ownsRow B 5 1 (.slice (some ⟨g, 0, none⟩) n c) n (bV (l.set k z)) := by
  refine ⟨by rw [bV, List.length_map, List.length_set]; have := h.1; rw [bV, List.length_map] at this; exact this, ?_⟩
  rcases h.2 with ⟨h0, _⟩ | ⟨g', cap, cur, e, hb, hg, hn, hm, hs, ht⟩
  · cases h0
  · cases e
    refine .inr ⟨g, c, cur.setIfInBounds k (.int .u8 z), rfl, hb, set_at hg k _, hn, hm, by simpa using hs, ?_⟩
    rw [Array.toList_setIfInBounds, List.take_set, ht, bV, bV, List.map_set]
theorem owns_cell {B n g c : Nat} {w : World} {l : List Int} (h : w.ownsRow B 5 1 (.slice (some ⟨g, 0, none⟩) n c) n (bV l)) {k : Nat} (hk : k < n) : w.cell? ⟨g, k, none⟩ = some (.int .u8 (gB l k)) ∧ w.frozen? ⟨g, k, none⟩ = false := by
  rcases h.2 with ⟨h0, _⟩ | ⟨g', cap, cur, e, hb, hg, hn, hm, hs, ht⟩
  · cases h0
  · cases e
    have hl : l.length = n := by have := h.1; rw [bV, List.length_map] at this; omega
    have e1 : (bV l)[k]? = some (.int .u8 (gB l k)) := by simp [bV, gB, List.getD, List.getElem?_eq_getElem (show k < l.length by omega)]
    rw [← ht, List.getElem?_take, if_pos (by omega)] at e1
    exact ⟨by rw [cell_at hg]; simpa using e1, frozen_at hg k⟩
theorem row_cell {B n g c : Nat} {w : World} {e : TypeId} {xs : List Value} (h : w.ownsRow B e 1 (.slice (some ⟨g, 0, none⟩) n c) n xs) {k : Nat} {x : Value} (hx : xs[k]? = some x) : w.cell? ⟨g, k, none⟩ = some x := by
  have := h.cells (g := g) rfl k x hx
  rwa [WideShapes.add_plain, Nat.zero_add] at this
theorem row_form {B n : Nat} {w : World} {e : TypeId} {v : Value} {xs : List Value} (h : w.ownsRow B e 1 v n xs) (h0 : 0 < n) : ∃ g c, v = .slice (some ⟨g, 0, none⟩) n c := by
  rcases h.2 with ⟨_, h1⟩ | ⟨g, cap, cur, rfl, -⟩
  · omega
  · exact ⟨g, cap, rfl⟩
theorem set_take_drop (l m : List Int) (k : Nat) (h : m.length = l.length) (hk : k < l.length) : (m.take k ++ l.drop k).set k (gB m k) = m.take (k + 1) ++ l.drop (k + 1) := by
  have hl : (m.take k).length = k := by simp; omega
  rw [List.set_append_right _ _ (by omega), hl, Nat.sub_self, List.drop_eq_getElem_cons hk, List.set_cons_zero, List.take_add_one, List.getElem?_eq_getElem (by omega), List.append_assoc]
  simp [gB, List.getD, List.getElem?_eq_getElem (show k < m.length by omega)]
end Go.Proofs.Ytikmaoigepoeoaa
