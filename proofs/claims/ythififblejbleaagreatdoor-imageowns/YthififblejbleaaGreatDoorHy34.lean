import Derived.Test.YthififblejbleaaGreatDoorHy33
import Derived.Test.YthififblejbleaaGreatDoorHy12
namespace Go.Proofs.YthififblejbleaaGreatDoor
open Go.RowKit
set_option linter.unusedVariables false
set_option linter.unusedSimpArgs false
theorem rd_hd {l : List UInt8} {p : Nat} (h : hdF l = some p) : rdI l = (nilM, p, 170) := by unfold rdI pasR; rw [h]
theorem pas_of {l : List UInt8} {m : Img} {k : Nat} (h : rdI l = (m, k, 0)) : pasR l = .ok m ∧ k = 0 ∧ Ok17 m := by
  unfold rdI at h
  cases hp : pasR l with
  | error p => rw [hp] at h; simp at h
  | ok m' =>
    rw [hp] at h
    simp only at h
    split at h
    · rename_i h0
      simp only [Prod.mk.injEq, and_true] at h
      obtain ⟨rfl, rfl⟩ := h
      exact ⟨rfl, rfl, ck_ok h0⟩
    · rename_i h0
      simp only [Prod.mk.injEq] at h
      exact absurd h.2.2 h0
theorem rd_err {l : List UInt8} (h : (rdI l).2.2 ≠ 0) : (rdI l).1 = nilM := by
  unfold rdI at h ⊢
  cases hp : pasR l with
  | error p => rfl
  | ok m =>
    rw [hp] at h
    simp only at h ⊢
    split
    · rename_i h0; rw [if_pos h0] at h; exact absurd rfl h
    · rfl
theorem rdF_le : ∀ (f : Nat) (l : List UInt8) (N : List (List UInt8)) (B : Nat), szF 1 N + l.length ≤ B → (rdF f l N).2 ≤ B
  | 0, _, N, B, h => by simp [rdF]
  | f + 1, [], N, B, h => by simp [rdF]
  | f + 1, c :: r, N, B, h => by
    unfold rdF
    split
    · simp only [List.length_cons] at h; show szF 1 N ≤ B; omega
    · rename_i hx
      refine rdF_le f _ _ B ?_
      have hne : ¬ nmP (c :: r) = [] := fun h => hx (.inr h)
      have h1 := nmP_end (c :: r) hne
      rw [szF_snoc, List.length_drop]
      omega
theorem rdP_le17 (l : List UInt8) : (rdP l).2 ≤ l.length := by
  cases l with
  | nil => simp [rdP]
  | cons c r =>
    show (if c = 0 then rdF r.length r [] else (none, 0)).2 ≤ _
    split
    · exact rdF_le r.length r [] (r.length + 1) (by simp only [szF]; omega)
    · simp
def stT (T : List Ins) : List Bool := T.flatMap fun x => if isW x.o then [true, false] else [true]
theorem stT_cons (x : Ins) (r : List Ins) : stT (x :: r) = (if isW x.o then [true, false] else [true]) ++ stT r := by simp [stT]
theorem stT_app (A B : List Ins) : stT (A ++ B) = stT A ++ stT B := by simp [stT]
theorem stT_len (T : List Ins) : (stT T).length = slotsP T := by
  induction T with
  | nil => rfl
  | cons x r ih => rw [stT_cons, List.length_append, ih, slots_cons]; split <;> rfl
theorem stA_head (T : List Ins) : (stT T ++ [true])[0]? = some true := by
  cases T with
  | nil => rfl
  | cons x r => rw [stT_cons]; split <;> rfl
theorem cntO_zero (A : List Ins) : cntO A 0 = (0, 0) := by cases A <;> simp [cntO]
theorem cnt_st : ∀ (A : List Ins) (k : Nat), 0 < k → k ≤ slotsP A → ((cntO A k).2 = k ↔ (stT A ++ [true])[k]? = some true) ∧ ((cntO A k).2 = k → ((stT A).take k).count true = (cntO A k).1)
  | [], k, h0, h => by simp [slotsP] at h; omega
  | x :: r, k, h0, h => by
    rw [slots_cons] at h
    rw [stT_cons]
    cases hw : isW x.o with
    | false =>
      obtain ⟨j, rfl⟩ : ∃ j, k = j + 1 := ⟨k - 1, by omega⟩
      simp only [hw, Bool.false_eq_true, if_false] at h
      have hc : cntO (x :: r) (j + 1) = ((cntO r j).1 + 1, (cntO r j).2 + 1) := by simp [cntO, hw]
      rw [hc]
      simp only [Bool.false_eq_true, if_false, List.cons_append, List.nil_append, List.getElem?_cons_succ, List.take_succ_cons]
      by_cases hj : j = 0
      · subst hj
        rw [cntO_zero]
        exact ⟨⟨fun _ => stA_head r, fun _ => rfl⟩, fun _ => by simp⟩
      · obtain ⟨h1, h2⟩ := cnt_st r j (by omega) (by omega)
        refine ⟨⟨fun e => h1.1 (by omega), fun e => by have := h1.2 e; omega⟩, fun e => ?_⟩
        rw [List.count_cons_self, h2 (by omega)]
    | true =>
      simp only [hw, if_true] at h
      by_cases hk : k = 1
      · subst hk
        have hc : cntO (x :: r) 1 = (1, 2) := by simp [cntO, hw, cntO_zero]
        rw [hc]
        simp
      · obtain ⟨j, rfl⟩ : ∃ j, k = j + 2 := ⟨k - 2, by omega⟩
        have hc : cntO (x :: r) (j + 2) = ((cntO r j).1 + 1, (cntO r j).2 + 2) := by simp [cntO, hw]
        rw [hc]
        simp only [if_true, List.cons_append, List.nil_append, List.getElem?_cons_succ, List.take_succ_cons]
        by_cases hj : j = 0
        · subst hj
          rw [cntO_zero]
          exact ⟨⟨fun _ => stA_head r, fun _ => rfl⟩, fun _ => by simp⟩
        · obtain ⟨h1, h2⟩ := cnt_st r j (by omega) (by omega)
          refine ⟨⟨fun e => h1.1 (by omega), fun e => by have := h1.2 e; omega⟩, fun e => ?_⟩
          rw [List.count_cons_self, List.count_cons_of_ne (by decide), h2 (by omega)]
theorem cnt_over {A : List Ins} {k : Nat} (h : slotsP A < k) : (cntO A k).2 ≠ k := fun e => by
  have h1 := (cntO_slots A k).1
  have h2 : slotsP (A.take (cntO A k).1) ≤ slotsP A := by
    have := slots_app (A.take (cntO A k).1) (A.drop (cntO A k).1)
    rw [List.take_append_drop] at this; omega
  omega
theorem st_from {T : List Ins} {fi sl : Nat} (h : slotsP (T.take fi) = sl) : (stT T ++ [true]).drop sl = stT (T.drop fi) ++ [true] ∧ slotsP T = sl + slotsP (T.drop fi) := by
  have e : T = T.take fi ++ T.drop fi := (List.take_append_drop fi T).symm
  have hl : (stT (T.take fi)).length = sl := by rw [stT_len, h]
  refine ⟨?_, by rw [← h, ← slots_app, List.take_append_drop]⟩
  calc (stT T ++ [true]).drop sl = (stT (T.take fi ++ T.drop fi) ++ [true]).drop sl := by rw [← e]
    _ = _ := by rw [stT_app, List.append_assoc, List.drop_append_of_le_length (by omega), List.drop_of_length_le (by omega), List.nil_append]
theorem at_bytes {N : List (List UInt8)} {p : Nat} {x : List UInt8} (h : atF 1 N (p : Int) = some x) : 1 ≤ p ∧ p + x.length + 1 ≤ (byP N).length ∧ (byP N)[p - 1]? = some 0 ∧ ∃ D, (byP N).drop p = x ++ 0 :: D := by
  obtain ⟨k, hk, hp⟩ := atF_idx N 1 (p : Int) x h
  have hp' : p = szF 1 (N.take k) := by omega
  have hkl : k < N.length := (List.getElem?_eq_some_iff.1 hk).1
  have hx : N[k] = x := (List.getElem?_eq_some_iff.1 hk).2
  have e : N = N.take k ++ (x :: N.drop (k + 1)) := by
    rw [← hx, List.getElem_cons_drop, List.take_append_drop]
  have hb : byP N = byP (N.take k) ++ (x ++ 0 :: byF (N.drop (k + 1))) := by
    calc byP N = byP (N.take k ++ (x :: N.drop (k + 1))) := by rw [← e]
      _ = _ := by rw [byP_app, byF_cons]
  have hl : (byP (N.take k)).length = p := by rw [byP_len, hp']
  obtain ⟨C, hC⟩ := byP_last (N.take k)
  have hCl : C.length + 1 = p := by rw [← hl, hC]; simp
  refine ⟨by omega, by rw [hb, List.length_append, hl, List.length_append, List.length_cons]; omega, ?_, ⟨byF (N.drop (k + 1)), ?_⟩⟩
  · rw [hb, hC, List.getElem?_append_left (by simp; omega), List.getElem?_append_right (by omega)]
    rw [show p - 1 - C.length = 0 by omega]; rfl
  · rw [hb, List.drop_append_of_le_length (by omega), List.drop_of_length_le (by omega), List.nil_append]
theorem zero_in {y : List UInt8} (h : nameOk y = true) : ∀ z ∈ y, z ≠ 0 := fun z hz e => by
  subst e
  simp [nameOk] at h
  exact h.2 hz
theorem at_of : ∀ (N : List (List UInt8)) (a j : Nat), (∀ y ∈ N, nameOk y = true) → j < (byF N).length → (j = 0 ∨ (byF N)[j - 1]? = some 0) → ∃ x, atF a N ((a + j : Nat) : Int) = some x
  | [], a, j, _, h, _ => by simp [byF] at h
  | y :: r, a, j, hn, h, h0 => by
    rw [byF_cons] at h h0
    by_cases hj : j = 0
    · subst hj
      exact ⟨y, by simp [atF]⟩
    · have h1 := h0.resolve_left hj
      by_cases hlt : j - 1 < y.length
      · rw [List.getElem?_append_left hlt] at h1
        exact absurd rfl (zero_in (hn y (by simp)) 0 (List.mem_of_getElem? h1))
      · obtain ⟨i, rfl⟩ : ∃ i, j = y.length + 1 + i := ⟨j - (y.length + 1), by omega⟩
        obtain ⟨x, hx⟩ := at_of r (a + y.length + 1) i (fun z hz => hn z (by simp [hz])) (by simp at h; omega) (by
          by_cases hi : i = 0
          · exact .inl hi
          · refine .inr ?_
            rw [List.getElem?_append_right (by omega), show y.length + 1 + i - 1 - y.length = (i - 1) + 1 by omega, List.getElem?_cons_succ] at h1
            exact h1)
        refine ⟨x, ?_⟩
        rw [atF, if_neg (by omega), ← hx]
        congr 1
        omega
theorem at_place {N : List (List UInt8)} {p : Nat} (hn : ∀ y ∈ N, nameOk y = true) (h1 : 1 ≤ p) (h2 : p < (byP N).length) (h3 : (byP N)[p - 1]? = some 0) : ∃ x, atF 1 N (p : Int) = some x := by
  obtain ⟨j, rfl⟩ : ∃ j, p = 1 + j := ⟨p - 1, by omega⟩
  refine at_of N 1 j hn (by unfold byP at h2; simp at h2; omega) ?_
  by_cases hj : j = 0
  · exact .inl hj
  · refine .inr ?_
    unfold byP at h3
    rw [show 1 + j - 1 = (j - 1) + 1 by omega, List.getElem?_cons_succ] at h3
    exact h3
theorem tz4_at {l : List UInt8} {q j : Nat} (hj : j < 4) (h : ∀ i, i < j → g1 l (q + i) = 0) (hn : g1 l (q + j) ≠ 0) : g4 l q ≠ 0 ∧ tz4 (g4 l q) = j := by
  have b0 := g1_lt l q; have b1 := g1_lt l (q + 1); have b2 := g1_lt l (q + 2); have b3 := g1_lt l (q + 3)
  unfold tz4 g4
  obtain rfl | rfl | rfl | rfl : j = 0 ∨ j = 1 ∨ j = 2 ∨ j = 3 := by omega
  · rw [Nat.add_zero] at hn
    refine ⟨by omega, ?_⟩
    rw [if_pos (by omega)]
  · have h0 := h 0 (by omega)
    rw [Nat.add_zero] at h0
    refine ⟨by omega, ?_⟩
    rw [if_neg (by omega), if_pos (by omega)]
  · have h0 := h 0 (by omega); have h1 := h 1 (by omega)
    rw [Nat.add_zero] at h0
    refine ⟨by omega, ?_⟩
    rw [if_neg (by omega), if_neg (by omega), if_pos (by omega)]
  · have h0 := h 0 (by omega); have h1 := h 1 (by omega); have h2 := h 2 (by omega)
    rw [Nat.add_zero] at h0
    refine ⟨by omega, ?_⟩
    rw [if_neg (by omega), if_neg (by omega), if_neg (by omega)]
theorem g4_zero {l : List UInt8} {q : Nat} (h : ∀ i, i < 4 → g1 l (q + i) = 0) : g4 l q = 0 := by
  have h0 := h 0 (by omega); have h1 := h 1 (by omega); have h2 := h 2 (by omega); have h3 := h 3 (by omega)
  rw [Nat.add_zero] at h0
  unfold g4; omega
def tkV : List UInt8 → Nat | [] => 0 | b :: r => b.toNat + 256 * tkV r
theorem tkV_lt : ∀ (L : List UInt8) (n : Nat), L.length ≤ n → tkV L < 256 ^ n
  | [], n, _ => by simp [tkV]; exact Nat.pow_pos (by decide)
  | b :: r, 0, h => by simp at h
  | b :: r, n + 1, h => by
    have ih := tkV_lt r n (by simp at h; omega)
    have hb := UInt8.toNat_lt b
    simp only [tkV, Nat.pow_succ]
    have h8 : (2 : Nat) ^ 8 = 256 := by decide
    omega
theorem getD_at {l : List UInt8} {p : Nat} (h : p < l.length) : l[p]? = some (l.getD p 0) := by
  rw [List.getD_eq_getElem?_getD, List.getElem?_eq_getElem h]; rfl
theorem drop_at {l : List UInt8} {p : Nat} (h : p < l.length) : l.drop p = l.getD p 0 :: l.drop (p + 1) := drop_cons h
theorem tk4 {l : List UInt8} {p : Nat} (h : p + 4 ≤ l.length) : tkV ((l.drop p).take 4) = g4 l p := by
  rw [drop_at (p := p) (by omega), drop_at (p := p + 1) (by omega), show l.drop (p + 1 + 1) = l.getD (p + 2) 0 :: l.drop (p + 3) from drop_at (p := p + 2) (by omega), show l.drop (p + 3) = l.getD (p + 3) 0 :: l.drop (p + 4) from drop_at (p := p + 3) (by omega)]
  simp only [List.take_succ_cons, List.take_zero, tkV, g4, g1]
  omega
theorem tk2 {l : List UInt8} {p : Nat} (h : p + 2 ≤ l.length) : tkV ((l.drop p).take 2) = g1 l p + 256 * g1 l (p + 1) := by
  rw [drop_at (p := p) (by omega), drop_at (p := p + 1) (by omega)]
  simp only [List.take_succ_cons, List.take_zero, tkV, g1]
  omega
theorem bt_sub {w : World} {g go : Nat} {l : List UInt8} (h : BtA w g go l) (p n : Nat) : BtA w g (go + p) ((l.drop p).take n) := fun k x hx => by
  have h1 : l[p + k]? = some x := by
    rw [List.getElem?_take] at hx
    split at hx
    · rwa [List.getElem?_drop] at hx
    · cases hx
  have := h (p + k) x h1
  rw [show go + p + k = go + (p + k) by omega]
  exact this
theorem BtA.outI {w w' : World} {g go : Nat} {l : List UInt8} (h : BtA w g go l) (o : Out w w') : BtA w' g go l := fun k x hx => cell_later o (h k x hx)
set_option maxRecDepth 8000 in
set_option maxHeartbeats 2000000 in
theorem taken_any (w : World) (g o c n : Nat) (L : List UInt8) (hn : L.length = n) (h4 : n ≤ 4) (hb : BtA w g o L) : Calls Tryz.prog 30 #[.slice (some ⟨g, o, none⟩) n c] w fun e w' => e = .returned (.int .i64 (tkV L : Nat)) ∧ w = w' := by
  have HB := hidOf hb
  have HN := hidOf hn
  clear hb hn
  go_enter Tryz.func30, Tryz.ntmps30
  go_wp2
  go_loopw [3, 4] (fun v i wr => ∃ (j x : Nat) (z : Int), j ≤ n ∧ v = .int .i64 x ∧ i = .int .i64 z ∧ Hid (z = (n : Int) - 1 - j) ∧ Hid (x = tkV (L.drop (n - j))) ∧ Hid (w = wr)) (fun _ i _ => (intOf i + 1).toNat)
  case atStart => exact ⟨0, 0, (n : Int) - 1, by omega, rfl, by simp, hidOf (by omega), hidOf (by rw [List.drop_of_length_le (by rw [HN.out]; omega)]; rfl), hidOf rfl⟩
  case round =>
    obtain ⟨j, x, z, hj, rfl, rfl, hz, hx, hw⟩ := hrel
    have hw := hw.out
    subst hw
    by_cases hjn : j < n
    · obtain ⟨k, hk⟩ : ∃ k : Nat, Hid (z = k) := ⟨(z.toNat), hidOf (by have := hz.out; omega)⟩
      have hkz := hk.out
      subst hkz
      have hge : (0 : Int) ≤ k := by omega
      have hkn : (k : Int) < n := by have := hz.out; omega
      have hkj : Hid (k = n - 1 - j) := hidOf (by have := hz.out; omega)
      obtain ⟨b, hb⟩ : ∃ b, L[k]? = some b := ⟨_, List.getElem?_eq_getElem (by rw [HN.out]; omega)⟩
      have q0 : w.cell? ⟨g, o + k, none⟩ = some (.int .u8 (b.toNat : Int)) := HB.out k b hb
      have hbl : b.toNat < 256 := UInt8.toNat_lt b
      have HD : Hid (x * 256 + b.toNat = tkV (L.drop (n - (j + 1)))) := hidOf (by
        have e : L.drop (n - (j + 1)) = b :: L.drop (n - j) := by
          rw [show n - (j + 1) = k by rw [hkj.out]; omega, show n - j = k + 1 by rw [hkj.out]; omega]
          have h1 := (List.getElem?_eq_some_iff.1 hb)
          rw [← h1.2, List.getElem_cons_drop]
        rw [e, tkV, hx.out]; omega)
      have hxb : x ≤ 16777216 := by
        rw [hx.out]
        have := tkV_lt (L.drop (n - j)) 3 (by rw [List.length_drop, HN.out]; omega)
        omega
      clear hb
      obtain ⟨bb, hbb⟩ : ∃ y : Nat, b.toNat = y := ⟨_, rfl⟩
      rw [hbb] at q0 hbl HD
      clear hbb
      go_wp2
      go_roundw
      case rel => exact ⟨j + 1, x * 256 + bb, (k : Int) - 1, by omega, by simp, by simp, hidOf (by have := hz.out; omega), HD, by first | exact hidOf rfl | exact hidOf trivial⟩
      case measure => simp [intOf] <;> omega
    · have hge : ¬ (0 : Int) ≤ z := by have := hz.out; omega
      have hj2 : j = n := by omega
      have hx2 : Hid (x = tkV L) := hidOf (by rw [hx.out, hj2]; simp)
      clear hj2
      go_wp2
      go_ret
      exact ⟨by rw [← hx2.out]; rfl, rfl⟩
set_option maxRecDepth 8000 in
theorem signed_any (w : World) (x : Nat) (b : Nat) (hb : b = 16 ∨ b = 32) (hx : x < 4294967296) : Calls Tryz.prog 59 #[.int .i64 x, .int .i64 b] w fun e w' => e = .returned (.int .i64 (sxP (2 ^ (b - 1) : Nat) x)) ∧ w = w' := by
  rcases hb with rfl | rfl
  · by_cases hlt : (x : Int) < 32768
    · have hge : ¬ (32768 : Int) ≤ x := by omega
      have E : sxP (2 ^ (16 - 1) : Nat) x = x := by unfold sxP; rw [if_pos (by simpa using hlt)]
      rw [E]
      go_enter Tryz.func59, Tryz.ntmps59
      go_wp2
      go_ret
      exact ⟨rfl, rfl⟩
    · have hge : (32768 : Int) ≤ x := by omega
      have E : sxP (2 ^ (16 - 1) : Nat) x = (x : Int) - 65536 := by unfold sxP; rw [if_neg (by simpa using hlt)]; rfl
      rw [E]
      go_enter Tryz.func59, Tryz.ntmps59
      go_wp2
      go_ret
      exact ⟨rfl, rfl⟩
  · by_cases hlt : (x : Int) < 2147483648
    · have hge : ¬ (2147483648 : Int) ≤ x := by omega
      have E : sxP (2 ^ (32 - 1) : Nat) x = x := by unfold sxP; rw [if_pos (by simpa using hlt)]
      rw [E]
      go_enter Tryz.func59, Tryz.ntmps59
      go_wp2
      go_ret
      exact ⟨rfl, rfl⟩
    · have hge : (2147483648 : Int) ≤ x := by omega
      have E : sxP (2 ^ (32 - 1) : Nat) x = (x : Int) - 4294967296 := by unfold sxP; rw [if_neg (by simpa using hlt)]; rfl
      rw [E]
      go_enter Tryz.func59, Tryz.ntmps59
      go_wp2
      go_ret
      exact ⟨rfl, rfl⟩
def RgA (w : World) (p : Nat) (v0 : Value) (s f d k : Int) (tv sv : Value) (se : Int) : Prop := w.heap[p]? = some (.cells #[v0, .int .i64 s, .int .i64 f, .int .i64 d, .int .i64 k, tv, sv, .int .i64 se] 81 (0, 0))
theorem RgA.lt {w : World} {p : Nat} {v0 tv sv : Value} {s f d k se : Int} (h : RgA w p v0 s f d k tv sv se) : p < w.heap.size := (Array.getElem?_eq_some_iff.1 h).1
theorem RgA.out {w w' : World} {p : Nat} {v0 tv sv : Value} {s f d k se : Int} (h : RgA w p v0 s f d k tv sv se) (o : Out w w') : RgA w' p v0 s f d k tv sv se := (o.block p h.lt).trans h
theorem RgA.chg {S : Nat → Prop} {w w' : World} {p : Nat} {v0 tv sv : Value} {s f d k se : Int} (h : RgA w p v0 s f d k tv sv se) (o : Chg S w w') (hp : ¬ S p) : RgA w' p v0 s f d k tv sv se := (o.block p h.lt hp).trans h
theorem RgA.at {w : World} {p : Nat} {v0 tv sv : Value} {s f d k se : Int} (h : RgA w p v0 s f d k tv sv se) : w.cell? ⟨p, 0, none⟩ = some v0 ∧ w.cell? ⟨p, 1, none⟩ = some (.int .i64 s) ∧ w.cell? ⟨p, 2, none⟩ = some (.int .i64 f) ∧ w.cell? ⟨p, 3, none⟩ = some (.int .i64 d) ∧ w.cell? ⟨p, 4, none⟩ = some (.int .i64 k) ∧ w.cell? ⟨p, 5, none⟩ = some tv ∧ w.cell? ⟨p, 6, none⟩ = some sv ∧ w.cell? ⟨p, 7, none⟩ = some (.int .i64 se) :=
  ⟨by rw [cell_atL h]; rfl, by rw [cell_atL h]; rfl, by rw [cell_atL h]; rfl, by rw [cell_atL h]; rfl, by rw [cell_atL h]; rfl, by rw [cell_atL h]; rfl, by rw [cell_atL h]; rfl, by rw [cell_atL h]; rfl⟩
theorem RgA.fr {w : World} {p : Nat} {v0 tv sv : Value} {s f d k se : Int} (h : RgA w p v0 s f d k tv sv se) (j : Nat) : w.frozen? ⟨p, j, none⟩ = false := frozen_atL h j
theorem RgA.s1 {w : World} {p : Nat} {v0 tv sv : Value} {s f d k se : Int} (h : RgA w p v0 s f d k tv sv se) (y : Int) : RgA (w.setCell ⟨p, 1, none⟩ (.int .i64 y)) p v0 y f d k tv sv se := set_atL h 1 (.int .i64 y)
theorem RgA.s2 {w : World} {p : Nat} {v0 tv sv : Value} {s f d k se : Int} (h : RgA w p v0 s f d k tv sv se) (y : Int) : RgA (w.setCell ⟨p, 2, none⟩ (.int .i64 y)) p v0 s y d k tv sv se := set_atL h 2 (.int .i64 y)
theorem RgA.s3 {w : World} {p : Nat} {v0 tv sv : Value} {s f d k se : Int} (h : RgA w p v0 s f d k tv sv se) (y : Int) : RgA (w.setCell ⟨p, 3, none⟩ (.int .i64 y)) p v0 s f y k tv sv se := set_atL h 3 (.int .i64 y)
theorem RgA.s4 {w : World} {p : Nat} {v0 tv sv : Value} {s f d k se : Int} (h : RgA w p v0 s f d k tv sv se) (y : Int) : RgA (w.setCell ⟨p, 4, none⟩ (.int .i64 y)) p v0 s f d y tv sv se := set_atL h 4 (.int .i64 y)
theorem RgA.s5 {w : World} {p : Nat} {v0 tv sv : Value} {s f d k se : Int} (h : RgA w p v0 s f d k tv sv se) (y : Value) : RgA (w.setCell ⟨p, 5, none⟩ y) p v0 s f d k y sv se := set_atL h 5 y
theorem RgA.s6 {w : World} {p : Nat} {v0 tv sv : Value} {s f d k se : Int} (h : RgA w p v0 s f d k tv sv se) (y : Value) : RgA (w.setCell ⟨p, 6, none⟩ y) p v0 s f d k tv y se := set_atL h 6 y
theorem RgA.s7 {w : World} {p : Nat} {v0 tv sv : Value} {s f d k se : Int} (h : RgA w p v0 s f d k tv sv se) (y : Int) : RgA (w.setCell ⟨p, 7, none⟩ (.int .i64 y)) p v0 s f d k tv sv y := set_atL h 7 (.int .i64 y)
theorem bt_chg {S : Nat → Prop} {w w' : World} {g go : Nat} {l : List UInt8} (h : BtA w g go l) (c : Chg S w w') (hg : ¬ S g) : BtA w' g go l := fun k x hx => c.cell (h k x hx) hg
def HedE (l : List UInt8) (p : Nat) (v0 : Value) (w : World) (e : Ending) (w' : World) : Prop :=
  Chg (fun k => k = p) w w' ∧ ((∃ q : Nat, hdF l = some q ∧ e = .returned (.int .i64 q)) ∨
    (hdF l = none ∧ e = .returned (.int .i64 (-1)) ∧ RgA w' p v0 (g4 l 8 : Nat) (g4 l 12 : Nat) (g4 l 16 : Nat) (g4 l 20 : Nat) (.slice none 0 0) (.slice none 0 0) 0))
set_option maxRecDepth 8000 in
set_option maxHeartbeats 4000000 in
theorem head_any (w : World) (p g go n c : Nat) (l : List UInt8) (hl : l.length = n) (hnc : n ≤ c) (hb : BtA w g go l) (hgp : ¬ g = p) (hn : n ≤ 281474976710656) (h : RgA w p (.slice (some ⟨g, go, none⟩) n c) 0 0 0 0 (.slice none 0 0) (.slice none 0 0) 0) : Calls Tryz.prog 25 #[.pointer (some ⟨p, 0, none⟩)] w (HedE l p (.slice (some ⟨g, go, none⟩) n c) w) := by
  obtain ⟨c0, c1, c2, c3, c4, c5, c6, c7⟩ := h.at
  have HL := hidOf hl
  have HB := hidOf hb
  have HR := hidOf h
  have hpl := h.lt
  clear hl hb h
  by_cases h28 : n < 28
  · have hlt : (n : Int) < 28 := by omega
    have E : hdF l = some n := by unfold hdF; rw [if_pos (by rw [HL.out]; exact h28), HL.out]
    go_enter Tryz.func25, Tryz.ntmps25
    go_wp2
    go_ret
    exact ⟨Chg.refl _ _, .inl ⟨n, E, rfl⟩⟩
  · have hlt : ¬ (n : Int) < 28 := by omega
    have E0 : Hid (∀ o : Option Nat, (match fstB (fun k => l.getD k 0 != opB.getD k 0) 8 with | some k => some k | none => if sizP (g4 l 8) (g4 l 12) (g4 l 16) (g4 l 20) ≠ l.length then some 8 else none) = o → hdF l = o) := hidOf fun o ho => by
      unfold hdF; rw [if_neg (by rw [HL.out]; omega)]; exact ho
    obtain ⟨w1, hw1⟩ : ∃ x, Hid (x = w.alloc (.cells #[.int .u8 83, .int .u8 80, .int .u8 73, .int .u8 78, .int .u8 1, .int .u8 0, .int .u8 0, .int .u8 0] 5)) := ⟨_, rfl⟩
    have O1 : Hid (Out w w1) := hidOf (by rw [hw1.out]; exact Out.alloc (Out.refl _) _)
    have WB : Hid (BtA w1 w.heap.size 0 opB) := hidOf fun k x hx => by
      rw [hw1.out, Nat.zero_add, cell_fresh w _ _ k _ rfl]
      rcases k with _ | _ | _ | _ | _ | _ | _ | _ | k <;> simp [opB] at hx ⊢ <;> subst hx <;> rfl
    go_enter Tryz.func25, Tryz.ntmps25
    go_upto_region 4 with fail
    rw [← hw1.out]
    clear c0 c1 c2 c3 c4 c5 c6 c7 hlt
    go_wp2
    go_loopw [4] (fun i wr => ∃ (j : Nat), j ≤ 8 ∧ i = .int .i64 j ∧ Hid (∀ k, k < j → (l.getD k 0 != opB.getD k 0) = false) ∧ Hid (Out w1 wr)) (fun i _ => 8 - (intOf i).toNat)
    case atStart => exact ⟨0, by omega, rfl, hidOf (fun k hk => by omega), hidOf (Out.refl _)⟩
    case round =>
      obtain ⟨j, hj, rfl, HJ, HO⟩ := hrel
      have OW := hidOf (O1.out.trans HO.out)
      obtain ⟨c0, c1, c2, c3, c4, c5, c6, c7⟩ := (HR.out.out OW.out).at
      by_cases hj8 : j < 8
      · have hlt8 : (j : Int) < 8 := by omega
        have hjn : (j : Int) < n := by omega
        have hj0 : (0 : Int) ≤ j := by omega
        have q0 : wr.cell? ⟨g, go + j, none⟩ = some (.int .u8 ((l.getD j 0).toNat : Int)) := cell_later OW.out (HB.out j _ (getD_at (by rw [HL.out]; omega)))
        have q1 : wr.cell? ⟨w.heap.size, j, none⟩ = some (.int .u8 ((opB.getD j 0).toNat : Int)) := by
          have := cell_later HO.out (WB.out j _ (getD_at (l := opB) (by simp [opB]; omega)))
          rw [Nat.zero_add] at this; exact this
        obtain ⟨xa, hxa⟩ : ∃ y : Nat, Hid ((l.getD j 0).toNat = y) := ⟨_, rfl⟩
        obtain ⟨xb, hxb⟩ : ∃ y : Nat, Hid ((opB.getD j 0).toNat = y) := ⟨_, rfl⟩
        rw [hxa.out] at q0
        rw [hxb.out] at q1
        clear c1 c2 c3 c4 c5 c6 c7
        go_upto_region 7 with fail
        by_cases hab : xa = xb
        · have hn1 : ((xa : Int) != (xb : Int)) = false := by simp [hab]
          have HN : Hid (∀ k, k < j + 1 → (l.getD k 0 != opB.getD k 0) = false) := hidOf fun k hk => by
            by_cases hkj : k < j
            · exact HJ.out k hkj
            · rw [show k = j by omega]
              have : l.getD j 0 = opB.getD j 0 := UInt8.toNat_inj.1 (by rw [hxa.out, hxb.out]; exact hab)
              rw [this]; simp
          go_region_held3 (fun wx => wx.cell? ⟨p, 0, none⟩ = some (.slice (some ⟨g, go, none⟩) n c) ∧ wx.cell? ⟨g, go + j, none⟩ = some (.int .u8 xa) ∧ wx.cell? ⟨w.heap.size, j, none⟩ = some (.int .u8 xb)) (go_keep) (fail)
          go_wp2
          go_roundw
          case rel => exact ⟨j + 1, by omega, by simp, HN, hidOf (Out.drew HO.out)⟩
          case measure => simp [intOf]; omega
        · have hn1 : ((xa : Int) != (xb : Int)) = true := by simp; omega
          have E1 : Hid (hdF l = some j) := hidOf (E0.out _ (by
            rw [fstB_some hj8 HJ.out (by
              have : l.getD j 0 ≠ opB.getD j 0 := fun e => hab (by rw [← hxa.out, ← hxb.out, e])
              simpa using this)]))
          go_region_held3 (fun wx => wx.cell? ⟨p, 0, none⟩ = some (.slice (some ⟨g, go, none⟩) n c) ∧ wx.cell? ⟨g, go + j, none⟩ = some (.int .u8 xa) ∧ wx.cell? ⟨w.heap.size, j, none⟩ = some (.int .u8 xb)) (go_keep) (fail)
          go_wp2
          go_ret
          exact ⟨Chg.of_out (Out.drew OW.out), .inl ⟨j, E1.out, rfl⟩⟩
      · have hlt8 : ¬ (j : Int) < 8 := by omega
        have HF : Hid (fstB (fun k => l.getD k 0 != opB.getD k 0) 8 = none) := hidOf (fstB_none fun k hk => HJ.out k (by omega))
        have CT : Hid (∀ wx q, q + 4 ≤ n → BtA wx g go l → Calls Tryz.prog 30 #[.slice (some ⟨g, go + q, none⟩) 4 (c - q)] wx fun e w' => e = .returned (.int .i64 (g4 l q : Nat)) ∧ wx = w') := hidOf fun wx q hq hbx => by
          have := taken_any wx g (go + q) (c - q) 4 ((l.drop q).take 4) (by rw [List.length_take, List.length_drop, HL.out]; omega) (by omega) (bt_sub hbx q 4)
          rw [tk4 (by rw [HL.out]; omega)] at this
          exact this
        obtain ⟨v1, hv1⟩ : ∃ v, Hid (g4 l 8 = v) := ⟨_, rfl⟩
        obtain ⟨v2, hv2⟩ : ∃ v, Hid (g4 l 12 = v) := ⟨_, rfl⟩
        obtain ⟨v3, hv3⟩ : ∃ v, Hid (g4 l 16 = v) := ⟨_, rfl⟩
        obtain ⟨v4, hv4⟩ : ∃ v, Hid (g4 l 20 = v) := ⟨_, rfl⟩
        have b1 : v1 < 4294967296 := by rw [← hv1.out]; exact g4_lt _ _
        have b2 : v2 < 4294967296 := by rw [← hv2.out]; exact g4_lt _ _
        have b3 : v3 < 4294967296 := by rw [← hv3.out]; exact g4_lt _ _
        have b4' : v4 < 4294967296 := by rw [← hv4.out]; exact g4_lt _ _
        have s0 : (20 : Int) ≤ c := by omega
        have s1 : (24 : Int) ≤ c := by omega
        have s2 : (12 : Int) ≤ c := by omega
        have s3 : (16 : Int) ≤ c := by omega
        have s4 : ¬ (c : Int) = 8 := by omega
        have s5 : ¬ (c : Int) = 12 := by omega
        have s6 : ¬ (c : Int) = 16 := by omega
        have s7 : ¬ (c : Int) = 20 := by omega
        have R0 := hidOf (HR.out.out OW.out)
        have Bt0 := hidOf (HB.out.outI OW.out)
        have K0 : Hid (Chg (fun k => k = p) w wr) := hidOf (Chg.of_out OW.out)
        go_upto_region 9 with fail
        clear c0 c1 c2 c3 c4 c5 c6 c7 hlt8
        obtain ⟨c0, c1, c2, c3, c4, c5, c6, c7⟩ := R0.out.at
        have fz := R0.out.fr 1
        go_upto_region 10 with (go_at_call 30; refine (CT.out _ 8 (by omega) Bt0.out).mono ?_; rintro e wy ⟨rfl, hy⟩; subst hy)
        obtain ⟨wa1, hwa1⟩ : ∃ x, Hid (x = World.setCell wr ⟨p, 1, none⟩ (.int .i64 (g4 l 8 : Nat))) := ⟨_, rfl⟩
        rw [← hwa1.out]
        have R1 := hidOf (R0.out.s1 (g4 l 8 : Nat))
        have cg := Chg.setCell (S := fun k => k = p) (Chg.refl _ wr) (p := ⟨p, 1, none⟩) rfl (.int .i64 (g4 l 8 : Nat))
        have Bt1 := hidOf (bt_chg Bt0.out cg hgp)
        have K1 := hidOf (Chg.trans K0.out cg (fun _ h _ => h))
        rw [← hwa1.out] at R1 Bt1 K1
        clear c0 c1 c2 c3 c4 c5 c6 c7 fz cg
        obtain ⟨c0, c1, c2, c3, c4, c5, c6, c7⟩ := R1.out.at
        have fz := R1.out.fr 2
        go_upto_region 11 with (go_at_call 30; refine (CT.out _ 12 (by omega) Bt1.out).mono ?_; rintro e wy ⟨rfl, hy⟩; subst hy)
        obtain ⟨wa2, hwa2⟩ : ∃ x, Hid (x = World.setCell wa1 ⟨p, 2, none⟩ (.int .i64 (g4 l 12 : Nat))) := ⟨_, rfl⟩
        rw [← hwa2.out]
        have R2 := hidOf (R1.out.s2 (g4 l 12 : Nat))
        have cg := Chg.setCell (S := fun k => k = p) (Chg.refl _ wa1) (p := ⟨p, 2, none⟩) rfl (.int .i64 (g4 l 12 : Nat))
        have Bt2 := hidOf (bt_chg Bt1.out cg hgp)
        have K2 := hidOf (Chg.trans K1.out cg (fun _ h _ => h))
        rw [← hwa2.out] at R2 Bt2 K2
        clear c0 c1 c2 c3 c4 c5 c6 c7 fz cg
        obtain ⟨c0, c1, c2, c3, c4, c5, c6, c7⟩ := R2.out.at
        have fz := R2.out.fr 3
        go_upto_region 12 with (go_at_call 30; refine (CT.out _ 16 (by omega) Bt2.out).mono ?_; rintro e wy ⟨rfl, hy⟩; subst hy)
        obtain ⟨wa3, hwa3⟩ : ∃ x, Hid (x = World.setCell wa2 ⟨p, 3, none⟩ (.int .i64 (g4 l 16 : Nat))) := ⟨_, rfl⟩
        rw [← hwa3.out]
        have R3 := hidOf (R2.out.s3 (g4 l 16 : Nat))
        have cg := Chg.setCell (S := fun k => k = p) (Chg.refl _ wa2) (p := ⟨p, 3, none⟩) rfl (.int .i64 (g4 l 16 : Nat))
        have Bt3 := hidOf (bt_chg Bt2.out cg hgp)
        have K3 := hidOf (Chg.trans K2.out cg (fun _ h _ => h))
        rw [← hwa3.out] at R3 Bt3 K3
        clear c0 c1 c2 c3 c4 c5 c6 c7 fz cg
        obtain ⟨c0, c1, c2, c3, c4, c5, c6, c7⟩ := R3.out.at
        have fz := R3.out.fr 4
        go_upto_region 13 with (go_at_call 30; refine (CT.out _ 20 (by omega) Bt3.out).mono ?_; rintro e wy ⟨rfl, hy⟩; subst hy)
        obtain ⟨wa4, hwa4⟩ : ∃ x, Hid (x = World.setCell wa3 ⟨p, 4, none⟩ (.int .i64 (g4 l 20 : Nat))) := ⟨_, rfl⟩
        rw [← hwa4.out]
        have R4 := hidOf (R3.out.s4 (g4 l 20 : Nat))
        have cg := Chg.setCell (S := fun k => k = p) (Chg.refl _ wa3) (p := ⟨p, 4, none⟩) rfl (.int .i64 (g4 l 20 : Nat))
        have Bt4 := hidOf (bt_chg Bt3.out cg hgp)
        have K4 := hidOf (Chg.trans K3.out cg (fun _ h _ => h))
        rw [← hwa4.out] at R4 Bt4 K4
        clear c0 c1 c2 c3 c4 c5 c6 c7 fz cg
        obtain ⟨c0, c1, c2, c3, c4, c5, c6, c7⟩ := R4.out.at
        rw [hv1.out] at c1
        rw [hv2.out] at c2
        rw [hv3.out] at c3
        rw [hv4.out] at c4
        have t1 : IntKind.i64.wrap (8 * (v1 : Int)) = 8 * v1 := by rw [IntKind.wrap_i64]; omega
        have t2 : IntKind.i64.wrap (28 + 8 * (v1 : Int)) = 28 + 8 * v1 := by rw [IntKind.wrap_i64]; omega
        have t3 : IntKind.i64.wrap (16 * (v2 : Int)) = 16 * v2 := by rw [IntKind.wrap_i64]; omega
        have t4 : IntKind.i64.wrap (28 + 8 * (v1 : Int) + 16 * v2) = 28 + 8 * v1 + 16 * v2 := by rw [IntKind.wrap_i64]; omega
        have t5 : IntKind.i64.wrap (20 * (v3 : Int)) = 20 * v3 := by rw [IntKind.wrap_i64]; omega
        have t6 : IntKind.i64.wrap (28 + 8 * (v1 : Int) + 16 * v2 + 20 * v3) = 28 + 8 * v1 + 16 * v2 + 20 * v3 := by rw [IntKind.wrap_i64]; omega
        have t7 : IntKind.i64.wrap (28 + 8 * (v1 : Int) + 16 * v2 + 20 * v3 + v4) = 28 + 8 * v1 + 16 * v2 + 20 * v3 + v4 := by rw [IntKind.wrap_i64]; omega
        have HS : Hid (sizP (g4 l 8) (g4 l 12) (g4 l 16) (g4 l 20) = 28 + 8 * v1 + 16 * v2 + 20 * v3 + v4) := hidOf (by rw [hv1.out, hv2.out, hv3.out, hv4.out]; rfl)
        by_cases hsz : 28 + 8 * v1 + 16 * v2 + 20 * v3 + v4 = n
        · have hne : ((28 + 8 * (v1 : Int) + 16 * v2 + 20 * v3 + v4) != (n : Int)) = false := by simp; omega
          have E1 : Hid (hdF l = none) := hidOf (E0.out _ (by rw [HF.out]; simp only; rw [if_neg (by rw [HS.out, HL.out]; omega)]))
          clear HF HS E0
          go_region_held3 (fun wx => wx.cell? ⟨p, 0, none⟩ = some (.slice (some ⟨g, go, none⟩) n c) ∧ wx.cell? ⟨p, 1, none⟩ = some (.int .i64 v1) ∧ wx.cell? ⟨p, 2, none⟩ = some (.int .i64 v2) ∧ wx.cell? ⟨p, 3, none⟩ = some (.int .i64 v3) ∧ wx.cell? ⟨p, 4, none⟩ = some (.int .i64 v4)) (go_keep) (fail)
          go_wp2
          go_ret
          exact ⟨Chg.drew K4.out, .inr ⟨E1.out, rfl, R4.out⟩⟩
        · have hne : ((28 + 8 * (v1 : Int) + 16 * v2 + 20 * v3 + v4) != (n : Int)) = true := by simp; omega
          have E1 : Hid (hdF l = some 8) := hidOf (E0.out _ (by rw [HF.out]; simp only; rw [if_pos (by rw [HS.out, HL.out]; omega)]))
          clear HF HS E0
          go_region_held3 (fun wx => wx.cell? ⟨p, 0, none⟩ = some (.slice (some ⟨g, go, none⟩) n c) ∧ wx.cell? ⟨p, 1, none⟩ = some (.int .i64 v1) ∧ wx.cell? ⟨p, 2, none⟩ = some (.int .i64 v2) ∧ wx.cell? ⟨p, 3, none⟩ = some (.int .i64 v3) ∧ wx.cell? ⟨p, 4, none⟩ = some (.int .i64 v4)) (go_keep) (fail)
          go_wp2
          go_ret
          exact ⟨Chg.drew K4.out, .inl ⟨8, E1.out, rfl⟩⟩
theorem szF_mem : ∀ (N : List (List UInt8)) (a : Nat) (x : List UInt8), x ∈ N → x.length < szF a N
  | [], _, _, h => by cases h
  | y :: r, a, x, h => by
    show x.length < szF (a + y.length + 1) r
    rcases List.mem_cons.mp h with rfl | h
    · have := szF_ge r (a + x.length + 1); omega
    · exact szF_mem r _ x h
theorem nmT_mem {N : List (List UInt8)} {nx pl ny : Nat} {x : List UInt8} (h : nmT N nx pl = some (x, ny)) : x ∈ N := by
  unfold nmT at h
  split at h
  · cases h
  · cases ha : atF 1 N pl with
    | none => rw [ha] at h; cases h
    | some y =>
      rw [ha] at h
      simp only [Option.some.injEq, Prod.mk.injEq] at h
      obtain ⟨k, hk, _⟩ := atF_idx N 1 _ y ha
      rw [← h.1]; exact List.mem_of_getElem? hk
theorem fn_small (l : List UInt8) (N : List (List UInt8)) (T : List Ins) : ∀ (n p fi sl nx : Nat) (F : List Fn) (ny : Nat), fnR l N T n p fi sl nx = .ok (F, ny) → ∀ x ∈ F, x.nm ∈ N ∧ 0 ≤ x.ob ∧ x.ob < 4294967296
  | 0, p, fi, sl, nx, F, ny, h, x, hx => by
    simp only [fnR, Except.ok.injEq, Prod.mk.injEq] at h
    rw [← h.1] at hx; cases hx
  | n + 1, p, fi, sl, nx, F, ny, h, x, hx => by
    unfold fnR at h
    cases hnm : nmT N nx (g4 l p) with
    | none => rw [hnm] at h; cases h
    | some q =>
      obtain ⟨y, nx'⟩ := q
      rw [hnm] at h
      simp only at h
      split at h
      · cases h
      split at h
      · cases h
      cases hr : fnR l N T n (p + 16) (fi + (cntO (T.drop fi) (g4 l (p + 12))).1) (sl + g4 l (p + 12)) nx' with
      | error r => rw [hr] at h; cases h
      | ok R =>
        rw [hr] at h
        simp only [Except.map, Except.ok.injEq, Prod.mk.injEq] at h
        rw [← h.1] at hx
        rcases List.mem_cons.mp hx with rfl | hx
        · exact ⟨nmT_mem hnm, by have := g4_lt l (p + 4); simp only; omega, by have := g4_lt l (p + 4); simp only; omega⟩
        · exact fn_small l N T n _ _ _ _ R.1 R.2 hr x hx
theorem pas_small {l : List UInt8} {m : Img} (h : pasR l = .ok m) (hl : l.length ≤ 1000000000000) : ∀ x ∈ m.F, OkK x.nm x.ob := by
  intro x hx
  unfold pasR at h
  cases hh : hdF l with
  | some q => rw [hh] at h; cases h
  | none =>
    rw [hh] at h; simp only at h
    cases ht : txR l (g4 l 8) 28 with
    | error q => rw [ht] at h; cases h
    | ok T =>
      rw [ht] at h; simp only at h
      obtain ⟨rN, q, hrd⟩ : ∃ rN q, rdP (l.drop (l.length - g4 l 20)) = (rN, q) := ⟨_, _, rfl⟩
      rw [hrd] at h
      cases rN with
      | none => cases h
      | some N =>
        simp only at h
        unfold enR at h
        cases hf : fnR l N T (g4 l 12) (28 + 8 * g4 l 8) 0 0 1 with
        | error q => rw [hf] at h; cases h
        | ok y =>
          obtain ⟨Fs, n1⟩ := y
          rw [hf] at h; simp only at h
          cases hd : tdR l N (g4 l 16) (28 + 8 * g4 l 8 + 16 * g4 l 12) n1 with
          | error q => rw [hd] at h; cases h
          | ok z =>
            obtain ⟨D, n2⟩ := z
            rw [hd] at h; simp only at h
            split at h
            · cases h
            · simp only [Except.ok.injEq] at h
              rw [← h] at hx
              obtain ⟨h1, h2, h3⟩ := fn_small l N T _ _ _ _ _ Fs n1 hf x hx
              have hb := rdP_inv (l := l.drop (l.length - g4 l 20)) (N := N) (by rw [hrd])
              have := szF_mem N 1 x.nm h1
              have hz : (l.drop (l.length - g4 l 20)).length = szF 1 N := by rw [hb.1, byP_len]
              rw [List.length_drop] at hz
              exact ⟨by omega, by omega, by omega⟩
end Go.Proofs.YthififblejbleaaGreatDoor
