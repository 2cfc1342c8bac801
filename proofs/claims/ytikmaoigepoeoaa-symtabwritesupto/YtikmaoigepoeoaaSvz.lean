import Derived.Test.YtikmaoigepoeoaaSfd
import Derived.Lib.AppendZerosOnto
import Derived.Deep.DeepCutAuto
import Derived.Lib.ConvBytes
import Derived.Laws.BytesString
namespace Go.Proofs.Ytikmaoigepoeoaa
open Go.RowKit
set_option linter.unusedVariables false
set_option linter.unusedSimpArgs false
def gB (B : List Int) (k : Nat) : Int := B.getD k 0
def Byts (B : List Int) : Prop := ∀ k, 0 ≤ gB B k ∧ gB B k < 256
theorem gB_app (a l : List Int) (k : Nat) (h : k < a.length) : gB (a ++ l) k = gB a k := by
  simp [gB, List.getD, List.getElem?_append_left h]
theorem gB_take (B : List Int) (m k : Nat) (h : k < m) : gB (B.take m) k = gB B k := by
  simp [gB, List.getD, List.getElem?_take, h]
theorem gB_drop (B : List Int) (m k : Nat) : gB (B.drop m) k = gB B (m + k) := by
  simp [gB, List.getD]
theorem gB_out (B : List Int) (k : Nat) (h : B.length ≤ k) : gB B k = 0 := by
  simp [gB, List.getD, List.getElem?_eq_none h]
theorem Byts.drop {B : List Int} (h : Byts B) (m : Nat) : Byts (B.drop m) := fun k => by rw [gB_drop]; exact h _
theorem Byts.take {B : List Int} (h : Byts B) (m : Nat) : Byts (B.take m) := fun k => by
  by_cases g : k < m
  · rw [gB_take _ _ _ g]; exact h k
  · rw [gB_out _ _ (by simp; omega)]; omega
theorem Byts.append {B C : List Int} (h : Byts B) (k : Byts C) : Byts (B ++ C) := fun j => by
  by_cases g : j < B.length
  · rw [gB_app _ _ _ g]; exact h j
  · have : gB (B ++ C) j = gB C (j - B.length) := by simp [gB, List.getD, List.getElem?_append_right (show B.length ≤ j by omega)]
    rw [this]; exact k _
/-- bytes at an address, that read B -/
def BytA (w : World) (a : Option Addr) (B : List Int) : Prop :=
  B = [] ∨ ∃ b off, a = some ⟨b, off, none⟩ ∧ ∀ k, k < B.length → w.cell? ⟨b, off + k, none⟩ = some (.int .u8 (gB B k))
theorem BytA.out {w w' : World} {a : Option Addr} {B : List Int} (h : BytA w a B) (o : Out w w') : BytA w' a B := by
  rcases h with h | ⟨b, off, rfl, h⟩
  · exact .inl h
  · exact .inr ⟨b, off, rfl, fun k hk => cell_later o (h k hk)⟩
theorem info8 : (Try.prog.info? 5).map (fun i => (i.zero, i.size, i.bytes)) = some (some (.int .u8 0), 1, 1) := by kernel_rfl
def bV (B : List Int) : List Value := B.map (Value.int .u8)
theorem owns_row {w : World} {B g n : Nat} {e : TypeId} {f : Nat → Value} {xs : List Value} (h : w.rowIs g e n f) (hB : B ≤ g) (hn : n ≤ maxLen) (hx : xs.length = n) (hf : ∀ j, j < n → xs[j]? = some (f j)) : w.ownsRow B e 1 (.slice (some ⟨g, 0, none⟩) n n) n xs := by
  obtain ⟨c, hb, hs, hc⟩ := h
  refine ⟨by omega, .inr ⟨g, n, c, rfl, hB, hb, Nat.le_refl _, hn, by omega, ?_⟩⟩
  apply List.ext_getElem?
  intro j
  rw [Nat.mul_one, List.getElem?_take]
  by_cases hj : j < n
  · rw [if_pos hj, hf j hj, ← hc j hj]; simp
  · rw [if_neg hj, List.getElem?_eq_none (by omega)]
/-- bytes in memory of the call's own -/
def OwnB (w w' : World) (v : Value) (B : List Int) : Prop := w'.ownsRow w.heap.size 5 1 v B.length (bV B)
theorem cell_at {w : World} {p : Nat} {cs : Array Value} {t : TypeId} (h : w.heap[p]? = some (.cells cs t (0, 0))) (j : Nat) : w.cell? ⟨p, j, none⟩ = cs[j]? := by simp [World.cell?, h]
theorem frozen_at {w : World} {p : Nat} {cs : Array Value} {t : TypeId} (h : w.heap[p]? = some (.cells cs t (0, 0))) (j : Nat) : w.frozen? ⟨p, j, none⟩ = false := by simp [World.frozen?, h]
theorem set_at {w : World} {p : Nat} {cs : Array Value} {t : TypeId} (h : w.heap[p]? = some (.cells cs t (0, 0))) (j : Nat) (u : Value) : (w.setCell ⟨p, j, none⟩ u).heap[p]? = some (.cells (cs.setIfInBounds j u) t (0, 0)) := by
  simp [World.setCell, Array.getElem?_modify, h]
theorem owns_out {B size : Nat} {w w' : World} {e : TypeId} {v : Value} {n : Nat} {xs : List Value} (h : w.ownsRow B e size v n xs) (o : Out w w') : w'.ownsRow B e size v n xs := owns_chg (S := fun _ => False) h (fun _ _ h => h) (Chg.of_out o)
theorem owns_voidBk (w : World) (B size : Nat) (e : TypeId) (hB : B ≤ w.heap.size) : (w.alloc (.cells #[] e)).ownsRow B e size (.slice (some ⟨w.heap.size, 0, none⟩) 0 0) 0 [] :=
  ⟨by simp, .inr ⟨w.heap.size, 0, #[], rfl, hB, by show (w.heap.push _)[w.heap.size]? = _; simp, by omega, by simp [maxLen], by simp, by simp⟩⟩
theorem drewN_twice (w : World) (a b : Nat) : (w.drewN a).drewN b = w.drewN (a + b) := by
  simp only [World.drewN, Nat.add_assoc]
theorem bV_one (B : List Int) : ∀ u ∈ bV B, u.oneCell' = true := by
  intro u hu
  obtain ⟨z, -, rfl⟩ := List.mem_map.1 hu
  rfl
theorem bV_get {B : List Int} {j : Nat} {u : Value} (h : (bV B)[j]? = some u) : j < B.length ∧ u = .int .u8 (gB B j) := by
  rw [bV, List.getElem?_map] at h
  obtain ⟨z, hz, rfl⟩ := Option.map_eq_some_iff.1 h
  exact ⟨(List.getElem?_eq_some_iff.1 hz).1, by simp [gB, List.getD, hz]⟩
theorem copyB (w : World) (a : Option Addr) (n cap : Nat) (B : List Int) (hn : B.length = n) (hi : BytA w a B) (hm : n ≤ 3518437208883) : Calls Try.prog 12 #[.slice a n cap] w fun e w' => ∃ v, e = .returned v ∧ OwnB w w' v B ∧ Out w w' := by
  obtain ⟨i0, hi0, hz0, hz1, hz2⟩ := info_parts info8
  cases a with
  | none =>
    obtain rfl : B = [] := by
      rcases hi with h | ⟨b, off, h, _⟩
      · exact h
      · cases h
    obtain rfl : n = 0 := by simpa using hn.symm
    go_enter Try.func12, Try.ntmps12
    go_wp2
    go_ret
    exact ⟨_, rfl, owns_voidBk w _ _ _ (Nat.le_refl _), Out.alloc (Out.refl _) _⟩
  | some ad =>
    have hcells : ∀ j u, (bV B)[j]? = some u → (w.alloc (.cells #[] 5)).cell? (ad.add j) = some u := by
      intro j u hu
      obtain ⟨hj, rfl⟩ := bV_get hu
      rcases hi with rfl | ⟨b, off, h, hc⟩
      · simp at hj
      · cases h
        rw [WideShapes.add_plain]
        exact cell_later ((Out.refl w).alloc _) (hc j hj)
    subst hn
    go_enter Try.func12, Try.ntmps12
    go_wp2_with (first | (at_builtin; go_loud (refine wpList_append_own _ rfl (.tmp 3) (.tmp 4) 37 rfl w.heap.size 5 i0 _ 1 1 Try.underlying37 hi0 hz0 hz1 hz2 rfl (by decide) _ 0 [] rfl (owns_voidBk w _ _ _ (Nat.le_refl _)) ad B.length cap (bV B) rfl (by simp [bV]) hcells (bV_one B) (by simp only [maxLen]; omega) (by omega) (by rw [size_alloc]; omega) ?_); intro v1 w1 hown1 hgrow1 _))
    go_ret
    refine ⟨_, rfl, by simpa [OwnB] using hown1, ?_⟩
    exact Chg.out (S := fun k => k = w.heap.size) (Chg.of_grown hgrow1 (fun k h => (Option.some.inj h).symm)) ((Out.refl w).alloc _) (fun k hk => by omega)
theorem owns_bytA {w : World} {B : Nat} {v : Value} {L : List Int} (h : w.ownsRow B 5 1 v L.length (bV L)) : ∃ a cap, v = .slice a L.length cap ∧ BytA w a L ∧ L.length ≤ cap := by
  rcases h.2 with ⟨rfl, h0⟩ | ⟨g, cap, cur, rfl, hb, hg, hn, hm, hs, ht⟩
  · obtain rfl : L = [] := List.length_eq_zero_iff.1 h0
    exact ⟨none, 0, rfl, .inl rfl, Nat.le_refl _⟩
  · refine ⟨_, cap, rfl, .inr ⟨g, 0, rfl, fun k hk => ?_⟩, hn⟩
    have e1 : (bV L)[k]? = some (.int .u8 (gB L k)) := by simp [bV, gB, List.getD, List.getElem?_eq_getElem hk]
    rw [← ht, List.getElem?_take, if_pos (by omega)] at e1
    rw [cell_at hg, Nat.zero_add]; simpa using e1
def strB (B : List Int) : ByteArray := B.foldl (fun r n => r.push (UInt8.ofNat n.toNat)) ByteArray.empty
theorem conv_bytes (w : World) (a : Option Addr) (n cap : Nat) (B : List Int) (hn : B.length = n) (h : BytA w a B) : (convert 37 9 (.slice a n cap)).run Try.prog w = .ok (.string (strB B)) w := by
  rw [run_convert_bytes_string w 37 9 5 a n cap Try.underlying37 Try.underlying5 Try.underlying9]
  subst hn
  cases a with
  | none =>
    obtain rfl : B = [] := by
      rcases h with h | ⟨b, off, h, _⟩
      · exact h
      · cases h
    rfl
  | some ad =>
    refine run_bytesToString w ad B.length cap B ?_
    have hl : B.length = (bV B).length := by simp [bV]
    rw [hl]
    refine run_loadCells_list w ad (bV B) (fun j u hu => ?_)
    obtain ⟨hj, rfl⟩ := bV_get hu
    rcases h with rfl | ⟨b, off, h, hc⟩
    · simp at hj
    · cases h
      rw [WideShapes.add_plain]
      exact hc j hj
end Go.Proofs.Ytikmaoigepoeoaa
