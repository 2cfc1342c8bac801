import Derived.Test.YtikmaoigepoeoaaSvb
namespace Go.Proofs.Ytikmaoigepoeoaa
open Go.RowKit
set_option linter.unusedVariables false
set_option linter.unusedSimpArgs false
/-- a list at rest: it reads l, its block is none of S -/
def Rd (B : Nat) (S : Nat → Prop) (w : World) (v : Value) (l : List Int) : Prop :=
  (v = .slice none 0 0 ∧ l = []) ∨ ∃ g c cur, v = .slice (some ⟨g, 0, none⟩) l.length c ∧ B ≤ g ∧ ¬ S g ∧ w.heap[g]? = some (.cells cur 5 (0, 0)) ∧ cur.toList.take l.length = bV l
theorem Rd.bytA {B : Nat} {S : Nat → Prop} {w : World} {v : Value} {l : List Int} (h : Rd B S w v l) : ∃ a c, v = .slice a l.length c ∧ BytA w a l := by
  rcases h with ⟨rfl, rfl⟩ | ⟨g, c, cur, rfl, hB, hS, hg, ht⟩
  · exact ⟨none, 0, rfl, .inl rfl⟩
  · refine ⟨_, c, rfl, .inr ⟨g, 0, rfl, fun k hk => ?_⟩⟩
    have e1 : (bV l)[k]? = some (.int .u8 (gB l k)) := by simp [bV, gB, List.getD, List.getElem?_eq_getElem hk]
    rw [← ht, List.getElem?_take, if_pos hk] at e1
    rw [cell_at hg, Nat.zero_add]; simpa using e1
theorem Rd.conv {B : Nat} {S : Nat → Prop} {w : World} {v : Value} {l : List Int} (h : Rd B S w v l) : (convert 37 9 v).run Try.prog w = .ok (.string (strB l)) w := by
  obtain ⟨a, c, rfl, hA⟩ := h.bytA
  exact conv_bytes w a _ c l rfl hA
theorem Rd.drewN {B : Nat} {S : Nat → Prop} {w : World} {v : Value} {l : List Int} (h : Rd B S w v l) (m : Nat) : Rd B S (w.drewN m) v l := h
theorem Rd.chg {B : Nat} {S T U : Nat → Prop} {w w' : World} {v : Value} {l : List Int} (h : Rd B S w v l) (c : Chg U w w') (hU : ∀ k cur, ¬ S k → w.heap[k]? = some (.cells cur 5 (0, 0)) → ¬ U k) (hT : ∀ k, k < w.heap.size → ¬ S k → ¬ T k) : Rd B T w' v l := by
  rcases h with h | ⟨g, cc, cur, rfl, hB, hS, hg, ht⟩
  · exact .inl h
  · have hlt : g < w.heap.size := (Array.getElem?_eq_some_iff.1 hg).1
    exact .inr ⟨g, cc, cur, rfl, hB, hT g hlt hS, (c.block g hlt (hU g cur hS hg)).trans hg, ht⟩
theorem Rd.out {B : Nat} {S : Nat → Prop} {w w' : World} {v : Value} {l : List Int} (h : Rd B S w v l) (o : Out w w') (hS : ∀ k, w.heap.size ≤ k → ¬ S k) : Rd B S w' v l := h.chg (Chg.of_out (S := fun _ => False) o) (fun _ _ _ _ h => h) (fun _ _ h => h)
theorem Rd.mono {B : Nat} {S T : Nat → Prop} {w : World} {v : Value} {l : List Int} (h : Rd B S w v l) (hT : ∀ k, ¬ S k → ¬ T k) : Rd B T w v l := h.chg (Chg.refl (fun _ => False) w) (fun _ _ _ _ h => h) (fun k _ h => hT k h)
theorem rd_of_owns {B : Nat} {S : Nat → Prop} {w : World} {v : Value} {l : List Int} (h : w.ownsRow B 5 1 v l.length (bV l)) (hS : ∀ k, v.ownBlock = some k → ¬ S k) : Rd B S w v l := by
  rcases h.2 with ⟨rfl, h0⟩ | ⟨g, cap, cur, rfl, hb, hg, hn, hm, hs, ht⟩
  · exact .inl ⟨rfl, List.length_eq_zero_iff.1 h0⟩
  · exact .inr ⟨g, cap, cur, rfl, hb, hS g rfl, hg, by simpa using ht⟩
/-- the lists of two rows read alike -/
def Pairs (w : World) (xs ys : List Value) : Prop := ∀ (j : Nat) x y, xs[j]? = some x → ys[j]? = some y → ∃ s, ∀ m, (convert 37 9 x).run Try.prog (w.drewN m) = .ok (.string s) (w.drewN m) ∧ (convert 37 9 y).run Try.prog (w.drewN m) = .ok (.string s) (w.drewN m)
theorem pairs_of {B : Nat} {S T : Nat → Prop} {w : World} {xs ys : List Value} (h : ∀ (j : Nat) x y, xs[j]? = some x → ys[j]? = some y → ∃ l, Rd B S w x l ∧ Rd B T w y l) : Pairs w xs ys := fun j x y hx hy => by
  obtain ⟨l, h1, h2⟩ := h j x y hx hy
  exact ⟨strB l, fun m => ⟨(h1.drewN m).conv, (h2.drewN m).conv⟩⟩
def Alike2 (w : World) (n g1 g2 : Nat) : Prop := ∀ j, j < n → ∃ x y s, w.cell? ⟨g1, j, none⟩ = some x ∧ w.cell? ⟨g2, j, none⟩ = some y ∧ ∀ m, (convert 37 9 x).run Try.prog (w.drewN m) = .ok (.string s) (w.drewN m) ∧ (convert 37 9 y).run Try.prog (w.drewN m) = .ok (.string s) (w.drewN m)
theorem alike_of {w : World} {B n g1 g2 c1 c2 : Nat} {xs ys : List Value} {e : TypeId} (h1 : w.ownsRow B e 1 (.slice (some ⟨g1, 0, none⟩) n c1) n xs) (h2 : w.ownsRow B e 1 (.slice (some ⟨g2, 0, none⟩) n c2) n ys) (hp : Pairs w xs ys) : Alike2 w n g1 g2 := by
  intro j hj
  have l1 : j < xs.length := by have := h1.1; omega
  have l2 : j < ys.length := by have := h2.1; omega
  have e1 : xs[j]? = some xs[j] := List.getElem?_eq_getElem l1
  have e2 : ys[j]? = some ys[j] := List.getElem?_eq_getElem l2
  obtain ⟨s, hs⟩ := hp j _ _ e1 e2
  have q1 := h1.cells (g := g1) rfl j _ e1
  have q2 := h2.cells (g := g2) rfl j _ e2
  rw [WideShapes.add_plain, Nat.zero_add] at q1 q2
  exact ⟨_, _, s, q1, q2, hs⟩
theorem books_same0 (w : World) (p : Nat) (c0 c1 c2 fa ha ma wa : Value) (a1 : Option Addr) (cc1 : Nat) (hst : StAt w p #[c0, c1, c2, fa, ha, ma, .slice a1 0 cc1, wa]) :
    Calls Try.prog 24 #[.pointer (some ⟨p, 0, none⟩)] w fun e w' => e = .returned (.bool true) ∧ ∃ m, w' = w.drewN m := by
  have hc6 : w.cell? ⟨p, 6, none⟩ = some (.slice a1 0 cc1) := hst.cell 6
  go_enter Try.func24, Try.ntmps24
  go_wp2
  refine wp_loop_rounds 1 ?_
  rw [rounds_succ]
  go_wp2
  go_ret
  exact ⟨rfl, 0, rfl⟩
theorem books_same1 (w : World) (p : Nat) (c0 c1 c2 fa ha ma : Value) (g1 g2 n cc1 cc2 : Nat) (hn : n ≤ 2000000000000) (hst : StAt w p #[c0, c1, c2, fa, ha, ma, .slice (some ⟨g1, 0, none⟩) n cc1, .slice (some ⟨g2, 0, none⟩) n cc2]) (hal : Alike2 w n g1 g2) :
    Calls Try.prog 24 #[.pointer (some ⟨p, 0, none⟩)] w fun e w' => e = .returned (.bool true) ∧ ∃ m, w' = w.drewN m := by
  have HA := hidOf hal
  clear hal
  go_enter Try.func24, Try.ntmps24
  go_wp2
  go_loopw [3] (fun i wr => ∃ k : Nat, k ≤ n ∧ i = .int .i64 k ∧ ∃ m, wr = w.drewN m) (fun i _ => n - (intOf i).toNat)
  case atStart => exact ⟨0, by omega, rfl, 0, rfl⟩
  case round =>
    obtain ⟨k, hk, rfl, m, rfl⟩ := hrel
    have hc6 : (w.drewN m).cell? ⟨p, 6, none⟩ = some (.slice (some ⟨g1, 0, none⟩) n cc1) := hst.cell 6
    have hc7 : (w.drewN m).cell? ⟨p, 7, none⟩ = some (.slice (some ⟨g2, 0, none⟩) n cc2) := hst.cell 7
    have hxx : k < n → ∃ x y s, (w.drewN m).cell? ⟨g1, k, none⟩ = some x ∧ (w.drewN m).cell? ⟨g2, k, none⟩ = some y ∧ ∀ q, (convert 37 9 x).run Try.prog ((w.drewN m).drewN q) = .ok (.string s) ((w.drewN m).drewN q) ∧ (convert 37 9 y).run Try.prog ((w.drewN m).drewN q) = .ok (.string s) ((w.drewN m).drewN q) := fun hk => by
      obtain ⟨x, y, s, h1, h2, h3⟩ := HA.out k hk
      exact ⟨x, y, s, h1, h2, fun q => by rw [drewN_twice]; exact h3 (m + q)⟩
    generalize hwm : w.drewN m = wm at *
    by_cases hkn : k < n
    · obtain ⟨x, y, s, q1, q2, hcv⟩ := hxx hkn
      have hv1 := fun q => (hcv q).1
      have hv2 := fun q => (hcv q).2
      clear hxx hcv
      go_wp2
      go_quiet (fail)
      go_wp2
      go_roundw
      case rel => exact ⟨k + 1, by omega, by simp, by subst hwm; first | exact ⟨_, rfl⟩ | exact ⟨_, (drewN_twice _ _ _)⟩⟩
      case measure => simp [intOf]; omega
    · obtain rfl : k = n := by omega
      clear hxx
      go_wp2
      go_ret
      exact ⟨rfl, _, hwm.symm⟩
end Go.Proofs.Ytikmaoigepoeoaa
