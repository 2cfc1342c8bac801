import Derived.Test.YtikmaoigepoeoaaSwe
namespace Go.Proofs.Ytikmaoigepoeoaa
open Go.RowKit
set_option linter.unusedVariables false
set_option linter.unusedSimpArgs false
theorem syV_set (L : List Sy) (j : Nat) (x : Sy) (hx : L[j]? = some x) (v : Int) : (syV L).set (j * 6 + 4) (.int .i64 v) = syV (L.set j { x with va := v }) := by
  have hj := (List.getElem?_eq_some_iff.1 hx).1
  have e1 : syV L = syV (L.take j) ++ ([.int .i64 x.na, .int .i64 x.bi, .int .i64 x.ki, .int .i64 x.se, .int .i64 x.va, .int .i64 x.si] ++ syV (L.drop (j + 1))) := by
    conv => lhs; rw [split_atY L j x hx]
    rw [syV_app]; rfl
  have e2 : syV (L.set j { x with va := v }) = syV (L.take j) ++ ([.int .i64 x.na, .int .i64 x.bi, .int .i64 x.ki, .int .i64 x.se, .int .i64 v, .int .i64 x.si] ++ syV (L.drop (j + 1))) := by
    rw [List.set_eq_take_append_cons_drop, if_pos hj, syV_app]; rfl
  have hl : (syV (L.take j)).length = j * 6 := by rw [syV_len, List.length_take, Nat.min_eq_left (by omega)]
  rw [e1, e2, List.set_append_right _ _ (by omega), hl, show j * 6 + 4 - j * 6 = 4 by omega]
  rfl
/-- a value of an own row's symbol is stored -/
theorem OwS.setva {B g c : Nat} {L : List Sy} {w : World} (h : OwS B (.slice (some ⟨g, 0, none⟩) L.length c) L w) {j : Nat} {x : Sy} (hx : L[j]? = some x) (v : Int) :
    OwS B (.slice (some ⟨g, 0, none⟩) L.length c) (L.set j { x with va := v }) (w.setCell ⟨g, j * 6 + 4, none⟩ (.int .i64 v)) := by
  have hj := (List.getElem?_eq_some_iff.1 hx).1
  have hl : (L.set j { x with va := v }).length = L.length := List.length_set
  unfold OwS at *
  rw [hl]
  obtain ⟨h1, h2⟩ := h
  refine ⟨by rw [syV_len, hl], ?_⟩
  rcases h2 with ⟨hv, _⟩ | ⟨g', cap, cur, hv, hb, hg, hn, hm, hs, ht⟩
  · cases hv
  · simp only [Value.slice.injEq, Option.some.injEq, Addr.mk.injEq] at hv
    obtain ⟨⟨rfl, _⟩, _, rfl⟩ := hv
    refine .inr ⟨g, c, cur.setIfInBounds (j * 6 + 4) (.int .i64 v), rfl, hb, set_atL hg _ _, hn, hm, by simpa using hs, ?_⟩
    rw [Array.toList_setIfInBounds, List.take_set, ht, syV_set L j x hx v]
theorem xor_le (a b : Int) : bits BinOp.xor IntKind.i64 a b ≤ 9223372036854775807 := by
  show IntKind.i64.wrap ((BitVec.ofInt 64 a ^^^ BitVec.ofInt 64 b).toNat : Int) ≤ _
  rw [IntKind.wrap_i64]
  omega
set_option maxRecDepth 20000 in
set_option maxHeartbeats 1000000 in
theorem turnedY_any (w : World) (a : Option Addr) (cap : Nat) (L : List Sy) (hr : SyAt w.heap.size w a L) (hl : L.length ≤ 2932031007402) (hk : ∀ s ∈ L, SyOk s) :
    Calls Try.prog 10 #[.slice a L.length cap] w fun e w' => ∃ L' b c, e = .returned (.slice b L.length c) ∧ L'.length = L.length ∧ OwS w.heap.size (.slice b L.length c) L' w' ∧ (∀ s ∈ L', SyOk s) ∧ Out w w' := by
  obtain ⟨i0, hi0, hz0, hz1, hz2⟩ := info_parts infoSm
  by_cases hL : L = []
  · subst hL
    have V : Hid (OwS w.heap.size (.slice (some ⟨w.heap.size, 0, none⟩) 0 0) [] (w.alloc (.cells #[] 57))) := owns_void w w.heap.size 6 57 (Nat.le_refl _)
    have fin : Hid (∃ L' b c, (Ending.returned (.slice (some ⟨w.heap.size, 0, none⟩) 0 0)) = .returned (.slice b ([] : List Sy).length c) ∧ L'.length = ([] : List Sy).length ∧ OwS w.heap.size (.slice b ([] : List Sy).length c) L' (w.alloc (.cells #[] 57)) ∧ (∀ s ∈ L', SyOk s) ∧ Out w (w.alloc (.cells #[] 57))) := ⟨[], _, _, rfl, rfl, V.out, fun s hs => (by cases hs), (Out.refl w).alloc _⟩
    simp only [List.length_nil] at fin ⊢
    cases a with
    | none =>
      go_enter Try.func10, Try.ntmps10
      go_wp2
      go_ret
      exact fin.out
    | some ad =>
      go_enter Try.func10, Try.ntmps10
      go_wp2
      go_ret
      exact fin.out
  · have hn : 0 < L.length := List.length_pos_iff.2 hL
    obtain ⟨ad, rfl⟩ : ∃ ad, a = some ad := by
      rcases hr with h | ⟨b, o, _, h, _⟩
      · exact absurd h hL
      · exact ⟨_, h⟩
    have HC : Hid (∀ wx, Out w wx → ∀ j u, (syV L)[j]? = some u → wx.cell? (ad.add j) = some u) := fun wx o => (hr.out o).news
    obtain ⟨J, hJ⟩ : ∃ J, J = L.length / 2 := ⟨_, rfl⟩
    have hJl : J < L.length := by omega
    have hJI : (L.length : Int) / 2 = J := by omega
    have hJd : (L.length : Int).tdiv 2 = J := by rw [Int.tdiv_eq_ediv_of_nonneg (by omega)]; exact hJI
    have hJ0 : (0 : Int) ≤ J := by omega
    have hJL : (J : Int) < L.length := by omega
    obtain ⟨x, hx⟩ : ∃ x, L[J]? = some x := ⟨_, List.getElem?_eq_getElem hJl⟩
    have Hx := hidOf hx
    have Hk := hidOf hk
    have hnI : (0 : Int) < L.length := by omega
    clear hr hk hx hJ hL
    go_enter Try.func10, Try.ntmps10
    go_upto_region 2 with (at_builtin; refine wpList_append_lies _ rfl (.tmp 4) (.tmp 5) 25 rfl w.heap.size 57 i0 _ 6 48 Try.underlying25 hi0 hz0 hz1 hz2 rfl (by decide) (.slice (some ⟨w.heap.size, 0, none⟩) 0 0) 0 [] rfl (owns_void w w.heap.size 6 57 (Nat.le_refl _)) ad L.length cap (syV L) rfl (syV_len L) (HC.out _ ((Out.refl w).alloc _)) (syV_one L) hn (by unfold maxLen; omega) (by omega) (by rw [size_alloc]; omega) _ rfl ?_; intro g c w2 hown' hgrow _ _; rw [Nat.zero_add] at hown'; have O2 := hidOf (out_rowN ((Out.refl w).alloc _) (owns_void w w.heap.size 6 57 (Nat.le_refl _)) hgrow); have HN : Hid (OwS w.heap.size (.slice (some ⟨g, 0, none⟩) L.length c) L w2) := hown'; (try rw [Nat.zero_add]); clear hown' hgrow)
    obtain ⟨b', c', hv, hcap, hat⟩ := OwS.at HN.out
    simp only [Value.slice.injEq] at hv
    obtain ⟨rfl, _, rfl⟩ := hv
    obtain ⟨g', off', hgo, _, h6⟩ := hat.get Hx.out
    simp only [Option.some.injEq, Addr.mk.injEq] at hgo
    obtain ⟨rfl, rfl, _⟩ := hgo
    have q4 := h6.c4
    rw [Nat.zero_add] at q4
    have hcI : (L.length : Int) ≤ c := by omega
    have f4 : w2.frozen? ⟨g, J * 6 + 4, none⟩ = false := by
      rcases HN.out.2 with ⟨hv, _⟩ | ⟨g', cap, cur, hv, _, hg, _⟩
      · cases hv
      · simp only [Value.slice.injEq, Option.some.injEq, Addr.mk.injEq] at hv
        obtain ⟨⟨rfl, _⟩, _⟩ := hv
        exact frozen_atL hg _
    have Hset := hidOf (HN.out.setva Hx.out (bits BinOp.xor IntKind.i64 x.va 8))
    have Hle := hidOf (xor_le x.va 8)
    have Hge : Hid (w.heap.size ≤ g) := hidOf (World.ownsRow.lt HN.out g rfl).1
    have Hsk : Hid (SyOk x) := hidOf (Hk.out x (List.mem_of_getElem? Hx.out))
    have Hok : Hid (∀ s ∈ L.set J { x with va := bits BinOp.xor IntKind.i64 x.va 8 }, SyOk s) := fun s hs => by
      rcases List.mem_or_eq_of_mem_set hs with h | h
      · exact Hk.out s h
      · rw [h]; exact ⟨Hle.out, Hsk.out.si⟩
    generalize x.va = va at *
    clear h6 hat hcap
    go_wp2
    go_ret
    exact ⟨_, _, _, rfl, by simp, Hset.out, Hok.out, Out.setCell O2.out (a := ⟨g, J * 6 + 4, none⟩) Hge.out _⟩
end Go.Proofs.Ytikmaoigepoeoaa
