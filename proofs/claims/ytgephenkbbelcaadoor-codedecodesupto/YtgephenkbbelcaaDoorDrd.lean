import Derived.Test.YtgephenkbbelcaaDoorPl
import Derived.Laws.CopyOwn
namespace Go.Proofs.YtgephenkbbelcaaDoor
open Go.RowKit
set_option linter.unusedVariables false
set_option linter.unusedSimpArgs false
theorem Byts.of_mem {B : List Int} (h : ∀ x ∈ B, 0 ≤ x ∧ x < 256) : Byts B := fun k => by
  unfold gB
  rw [List.getD_eq_getElem?_getD]
  cases hk : B[k]? with
  | none => simp
  | some x => exact h x (List.mem_of_getElem? hk)
theorem Byts.mem {B : List Int} (h : Byts B) {x : Int} (hx : x ∈ B) : 0 ≤ x ∧ x < 256 := by
  obtain ⟨k, hk⟩ := List.getElem?_of_mem hx
  have := h k
  unfold gB at this
  rw [List.getD_eq_getElem?_getD, hk] at this
  exact this
theorem copyB2 (w : World) (a : Option Addr) (n cap : Nat) (B : List Int) (hn : B.length = n) (hi : BytA w a B) (hm : n ≤ 3518437208883) : Calls Tryd.prog 14 #[.slice a n cap] w fun e w' => ∃ a1 c1, e = .returned (.slice a1 n c1) ∧ w'.ownsRow w.heap.size 5 1 (.slice a1 n c1) n (bV B) ∧ Out w w' := by
  subst hn
  refine (copyB w a _ cap B rfl hi hm).mono ?_
  rintro e w' ⟨v, rfl, hv, ho⟩
  rcases hv.2 with ⟨rfl, h0⟩ | ⟨g, cp, cur, rfl, _⟩
  · exact ⟨none, 0, by rw [h0], by have := hv; unfold OwnB at this; rw [h0] at this ⊢; exact this, ho⟩
  · exact ⟨_, cp, rfl, hv, ho⟩
theorem own_set1 {B g n c : Nat} {e : TypeId} {xs : List Value} {w : World} (h : w.ownsRow B e 1 (.slice (some ⟨g, 0, none⟩) n c) n xs) (i : Nat) (u : Value) : (w.setCell ⟨g, i, none⟩ u).ownsRow B e 1 (.slice (some ⟨g, 0, none⟩) n c) n (xs.set i u) := by
  rcases h.2 with ⟨hv, _⟩ | ⟨g', cap, cur, hv, hb, hg, hn, hm, hs, ht⟩
  · cases hv
  · cases hv
    refine ⟨by rw [List.length_set]; exact h.1, .inr ⟨g, c, cur.setIfInBounds i u, rfl, hb, set_at hg i u, hn, hm, by simpa using hs, ?_⟩⟩
    rw [Array.toList_setIfInBounds, List.take_set, ht]
theorem own_splice1 {B g n c : Nat} {e : TypeId} {xs cs : List Value} {cur : Array Value} {w w' : World} (h : w.ownsRow B e 1 (.slice (some ⟨g, 0, none⟩) n c) n xs) (hg : w.heap[g]? = some (.cells cur e (0, 0))) (hc : cs.length ≤ n) (hg' : w'.heap[g]? = some (.cells (splice cur.toList 0 cs).toArray e (0, 0))) : w'.ownsRow B e 1 (.slice (some ⟨g, 0, none⟩) n c) n (cs ++ xs.drop cs.length) := by
  rcases h.2 with ⟨hv, _⟩ | ⟨g', cap, cur', hv, hb, hg2, hn, hm, hs, ht⟩
  · cases hv
  · cases hv
    rw [hg] at hg2
    cases hg2
    have hl := h.1
    have hcl : cur.toList.length = c := by simpa using hs
    refine ⟨by simp; omega, .inr ⟨g, c, _, rfl, hb, hg', hn, hm, ?_, ?_⟩⟩
    · simp [splice]; simp at hcl; omega
    · simp only [splice, List.take_zero, List.nil_append, Nat.zero_add, Nat.mul_one]
      rw [← ht, Nat.mul_one, List.take_append, List.take_of_length_le hc, List.drop_take]
theorem xor1 (x : Int) (h0 : 0 ≤ x) (h1 : x < 256) : 0 ≤ bits .xor .u8 x 1 ∧ bits .xor .u8 x 1 < 256 := by
  have h : ∀ a : Nat, a < 256 → 0 ≤ bits .xor .u8 (a : Int) 1 ∧ bits .xor .u8 (a : Int) 1 < 256 := by decide +kernel
  have := h x.toNat (by omega)
  rwa [show ((x.toNat : Nat) : Int) = x by omega] at this
theorem bV_drop (B : List Int) (k : Nat) : (bV B).drop k = bV (B.drop k) := by simp [bV]
theorem bV_oneB (L : List Int) : ∀ v ∈ bV L, v.oneCell' = true := fun v hv => by
  obtain ⟨x, _, rfl⟩ := List.mem_map.1 hv
  rfl
theorem src_cell {w w1 : World} {b off m : Nat} {B : List Int} (hc : ∀ k, k < B.length → w.cell? ⟨b, off + k, none⟩ = some (.int .u8 (gB B k))) (o : Out w w1) {j : Nat} {v : Value} (hv : (bV (B.drop m))[j]? = some v) : w1.cell? ⟨b, off + (m + j), none⟩ = some v := by
  have hl := (List.getElem?_eq_some_iff.1 hv).1
  simp [bV] at hl
  rw [cell_later o (hc (m + j) (by omega))]
  simp [bV, List.getElem?_drop, List.getElem?_eq_getElem (show m + j < B.length by omega)] at hv
  rw [← hv]
  simp [gB, List.getD, List.getElem?_eq_getElem (show m + j < B.length by omega)]
/-- the bytes turned: new memory, so many bytes -/
def TbE (w : World) (n : Nat) (e : Ending) (w' : World) : Prop := ∃ a1 c1 B', e = .returned (.slice a1 n c1) ∧ B'.length = n ∧ Byts B' ∧ w'.ownsRow w.heap.size 5 1 (.slice a1 n c1) n (bV B') ∧ Out w w'
theorem info8s : (Tryd.prog.info? 5).map (·.size) = some 1 := by kernel_rfl
set_option maxRecDepth 20000 in
set_option maxHeartbeats 1000000 in
theorem turnedBytes_any (w : World) (a : Option Addr) (n cap : Nat) (B : List Int) (hlen : B.length = n) (hB : Byts B) (hA : BytA w a B) (hll : n ≤ 3518437208883) (hcap : n ≤ cap) (t : Nat) (ht : t ≤ 3) :
    Calls Tryd.prog 5 #[.slice a n cap, .int .i64 t] w (TbE w n) := by
  have HB := hidOf hB
  have HA := hidOf hA
  have Hlen := hidOf hlen
  have HC := hidOf (copyB2 w a n cap B hlen hA hll)
  clear hB hA hlen
  by_cases h1 : t = 1 ∧ 0 < n
  · obtain ⟨rfl, hn⟩ := h1
    have hnI : (0 : Int) < n := by omega
    obtain ⟨m, hm⟩ : ∃ m, m = n / 2 := ⟨_, rfl⟩
    have hmI : (n : Int).tdiv 2 = m := by rw [Int.tdiv_eq_ediv_of_nonneg (by omega)]; omega
    have hmI2 : (n : Int) / 2 = m := by omega
    have hmw : IntKind.i64.wrap (m : Int) = m := by rw [IntKind.wrap_i64]; omega
    have hml : (m : Int) < n := by omega
    have hm0 : (0 : Int) ≤ m := by omega
    have Hmn : Hid (m < n) := hidOf (by omega)
    clear hm
    go_enter Tryd.func5, Tryd.ntmps5
    go_upto_region 3 with (go_at_call 14; refine HC.out.mono ?_; rintro e w1 ⟨a1, c1, rfl, hown, ho⟩; have HO := hidOf hown; have Ho := hidOf ho; clear hown ho)
    obtain ⟨g, rfl, cur, hg, hgw⟩ : ∃ g, a1 = some ⟨g, 0, none⟩ ∧ ∃ cur, w1.heap[g]? = some (.cells cur 5 (0, 0)) ∧ w.heap.size ≤ g := by
      rcases HO.out.2 with ⟨_, h0⟩ | ⟨g, cp, cur, e, hb, hg, _⟩
      · omega
      · cases e; exact ⟨g, rfl, cur, hg, hb⟩
    have q : w1.cell? ⟨g, m, none⟩ = some (.int .u8 (gB B m)) := by
      have := World.ownsRow.cells HO.out (g := g) rfl m (.int .u8 (gB B m)) (by have := Hmn.out; simp [bV, gB, List.getD, List.getElem?_eq_getElem (show m < B.length by rw [Hlen.out]; exact this)])
      rw [WideShapes.add_plain, Nat.zero_add] at this
      exact this
    have fz : w1.frozen? ⟨g, m, none⟩ = false := frozen_at hg m
    have hx := xor1 _ (HB.out m).1 (HB.out m).2
    have HX := hidOf hx
    have Hgw := hidOf hgw
    clear hx hg hgw
    obtain ⟨y, hy⟩ : ∃ y, y = bits .xor .u8 (gB B m) 1 := ⟨_, rfl⟩
    rw [← hy] at HX
    have HY := hidOf hy
    clear hy
    go_wp2
    go_ret
    refine ⟨_, _, B.set m y, rfl, by rw [List.length_set, Hlen.out], Byts.of_mem (fun x hx => ?_), ?_, Ho.out.setCell (a := ⟨g, m, none⟩) Hgw.out _⟩
    · rcases List.mem_or_eq_of_mem_set hx with h | h
      · exact HB.out.mem h
      · rw [h]; exact HX.out
    · have h := own_set1 HO.out m (.int .u8 y)
      have e : (bV B).set m (.int .u8 y) = bV (B.set m y) := by simp [bV, List.map_set]
      rw [e] at h
      rw [← HY.out]
      exact h
  · by_cases h2 : t = 2 ∧ 8 ≤ n
    · obtain ⟨rfl, hn⟩ := h2
      have hnI : (8 : Int) ≤ n := by omega
      obtain ⟨m, hm⟩ : ∃ m, m = n - 8 := ⟨_, rfl⟩
      have hmI : (n : Int) - 8 = m := by omega
      have hmw : IntKind.i64.wrap (m : Int) = m := by rw [IntKind.wrap_i64]; omega
      have hml : (m : Int) ≤ n := by omega
      have hm0 : (0 : Int) ≤ m := by omega
      have Hmn : Hid (m + 8 = n) := hidOf (by omega)
      have hmc : ¬ cap = m := by omega
      clear hm h1
      obtain ⟨b, off, rfl, hc⟩ : ∃ b off, a = some ⟨b, off, none⟩ ∧ ∀ k, k < B.length → w.cell? ⟨b, off + k, none⟩ = some (.int .u8 (gB B k)) := by
        rcases HA.out with h | h
        · have := Hlen.out; simp [h] at this; omega
        · exact h
      have HCc := hidOf hc
      clear hc
      go_enter Tryd.func5, Tryd.ntmps5
      go_upto_region 5 with (go_at_call 14; refine HC.out.mono ?_; rintro e w1 ⟨a1, c1, rfl, hown, ho⟩; have HO := hidOf hown; have Ho := hidOf ho; clear hown ho)
      obtain ⟨g, rfl, cur, hg, hgw, hcl⟩ : ∃ g, a1 = some ⟨g, 0, none⟩ ∧ ∃ cur, w1.heap[g]? = some (.cells cur 5 (0, 0)) ∧ w.heap.size ≤ g ∧ n ≤ cur.size := by
        rcases HO.out.2 with ⟨_, h0⟩ | ⟨g, cp, cur, e, hb, hg, h1, _, h2, _⟩
        · omega
        · cases e; exact ⟨g, rfl, cur, hg, hb, by omega⟩
      have Hg := hidOf hg
      have Hgw := hidOf hgw
      have Hcl := hidOf hcl
      have HM : Hid ((bV (B.drop m)).length = 8) := hidOf (by simp [bV, Hlen.out]; have := Hmn.out; omega)
      clear hg hgw hcl
      go_upto_region 6 with (first | (go_loud (refine wpList_copy_splice rfl (.tmp 34) (.tmp 39) 22 22 rfl 5 Tryd.underlying22 info8s (some ⟨g, 0, none⟩) (some ⟨b, off + m, none⟩) n c1 (n - m) (cap - m) rfl rfl g 0 cur.toList 5 (by simpa using Hg.out) (bV (B.drop m)) (by rw [HM.out]; have := Hmn.out; show 8 = min (n - m) n; omega) (fun _ => ⟨rfl, _, rfl, fun j v hv => ?_⟩) (by rw [HM.out]; have := Hcl.out; simp; omega) (bV_oneB _) w.heap.size w Ho.out Hgw.out ?_); (rw [WideShapes.add_plain, Nat.add_assoc]; exact src_cell HCc.out Ho.out hv); intro w4 hg4 hb4))
      go_wp2

      go_ret
      refine ⟨_, _, B.drop m ++ B.drop 8, rfl, ?_, Byts.of_mem (fun x hx => ?_), ?_, hb4⟩
      · have := Hmn.out; simp [Hlen.out]; omega
      · rcases List.mem_append.1 hx with h | h
        · exact HB.out.mem (List.mem_of_mem_drop h)
        · exact HB.out.mem (List.mem_of_mem_drop h)
      · have h := own_splice1 HO.out Hg.out (by rw [HM.out]; exact hn) hg4
        have e : bV (B.drop m) ++ (bV B).drop (bV (B.drop m)).length = bV (B.drop m ++ B.drop 8) := by rw [HM.out]; simp [bV]
        rw [e] at h
        exact h
    · have FIN : ∀ e w1, (∃ a1 c1, e = Ending.returned (.slice a1 n c1) ∧ w1.ownsRow w.heap.size 5 1 (.slice a1 n c1) n (bV B) ∧ Out w w1) → TbE w n e w1 := by
        rintro e w1 ⟨a1, c1, rfl, h, o⟩
        exact ⟨a1, c1, B, rfl, Hlen.out, HB.out, h, o⟩
      have HF := hidOf FIN
      clear FIN
      obtain rfl | rfl | rfl | rfl : t = 0 ∨ t = 1 ∨ t = 2 ∨ t = 3 := by omega
      · go_enter Tryd.func5, Tryd.ntmps5
        go_wp2_with (go_at_call 14; refine HC.out.mono ?_; rintro e w1 ⟨a1, c1, rfl, hown, ho⟩; have HO := hidOf hown; have Ho := hidOf ho; clear hown ho)
        go_ret
        exact HF.out _ _ ⟨a1, c1, rfl, HO.out, Ho.out⟩
      · obtain rfl : n = 0 := by omega
        go_enter Tryd.func5, Tryd.ntmps5
        go_wp2_with (go_at_call 14; refine HC.out.mono ?_; rintro e w1 ⟨a1, c1, rfl, hown, ho⟩; have HO := hidOf hown; have Ho := hidOf ho; clear hown ho)
        go_ret
        exact HF.out _ _ ⟨a1, c1, rfl, HO.out, Ho.out⟩
      · have hnI : ¬ (8 : Int) ≤ n := by omega
        go_enter Tryd.func5, Tryd.ntmps5
        go_wp2_with (go_at_call 14; refine HC.out.mono ?_; rintro e w1 ⟨a1, c1, rfl, hown, ho⟩; have HO := hidOf hown; have Ho := hidOf ho; clear hown ho)
        go_ret
        exact HF.out _ _ ⟨a1, c1, rfl, HO.out, Ho.out⟩
      · go_enter Tryd.func5, Tryd.ntmps5
        go_wp2_with (go_at_call 14; refine HC.out.mono ?_; rintro e w1 ⟨a1, c1, rfl, hown, ho⟩; have HO := hidOf hown; have Ho := hidOf ho; clear hown ho)
        go_ret
        exact HF.out _ _ ⟨a1, c1, rfl, HO.out, Ho.out⟩
end Go.Proofs.YtgephenkbbelcaaDoor
