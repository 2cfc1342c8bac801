import Derived.Test.YtfmcoffmgdcciaaDoorAq
namespace Go.Proofs.YtfmcoffmgdcciaaDoor
open Go.RowKit
open Go.Maps (Keyed)
set_option linter.unusedVariables false
set_option linter.unusedSimpArgs false
theorem tw_len' {α : Type} (p : α → Bool) : ∀ (l : List α) (k : Nat), (l.take k).all p = true → k ≤ l.length → (k = l.length ∨ ∃ b, l[k]? = some b ∧ p b = false) → (l.takeWhile p).length = k
  | [], k, _, h, _ => by simp at h; simp [h]
  | x :: r, 0, _, _, h => by
    rcases h with h | ⟨b, hb, hp⟩
    · simp at h
    · simp at hb; subst hb; simp [List.takeWhile, hp]
  | x :: r, k + 1, ha, hk, h => by
    simp only [List.take_succ_cons, List.all_cons, Bool.and_eq_true] at ha
    simp only [List.takeWhile, ha.1, List.length_cons]
    rw [tw_len' p r k ha.2 (by simpa using hk) (by simpa using h)]
def twZ (m : List UInt8) : List UInt8 := m.takeWhile (fun b => b != 0)
theorem twZ_le (m : List UInt8) : (twZ m).length ≤ m.length := (List.takeWhile_sublist _).length_le
theorem twZ_take (m : List UInt8) : twZ m = m.take (twZ m).length := List.prefix_iff_eq_take.1 (List.takeWhile_prefix _)
theorem twZ_no (m : List UInt8) : ∀ b ∈ twZ m, ¬ b = 0 := fun b hb => by have := tw_all _ m b hb; simpa using this
theorem tw_at (p : UInt8 → Bool) : ∀ (m : List UInt8), (m.takeWhile p).length < m.length → ∃ b, m[(m.takeWhile p).length]? = some b ∧ p b = false
  | [], h => by simp at h
  | y :: r, h => by
    simp only [List.takeWhile] at h ⊢
    cases hy : p y
    · exact ⟨y, by simp, hy⟩
    · rw [hy] at h
      simp only [List.length_cons] at h
      obtain ⟨b, hb, hp⟩ := tw_at p r (by omega)
      exact ⟨b, by simpa using hb, hp⟩
theorem twZ_end (m : List UInt8) (h : (twZ m).length < m.length) : m[(twZ m).length]? = some 0 := by
  obtain ⟨b, hb, hp⟩ := tw_at (fun b => b != 0) m h
  rw [show twZ m = m.takeWhile (fun b => b != 0) from rfl, hb]
  simp at hp
  rw [hp]
/-- what the reference tests is what the program tests -/
theorem step_bad {m : List UInt8} {N : List (List UInt8)} (h : nameOk (twZ m) = false ∨ (twZ m).length = m.length ∨ twZ m ∈ N) : nmP m ∈ N ∨ nmP m = [] := by
  unfold nmP
  by_cases hc : (m.take 65).contains 0 = true
  · rw [if_pos hc]
    have hm : (0 : UInt8) ∈ m.take 65 := by simpa using hc
    have hl : (twZ m).length ≤ 64 ∧ (twZ m).length < m.length := by
      have h1 := nmP_le m
      have h2 : nmP m = twZ m := by unfold nmP; rw [if_pos hc]; rfl
      rw [h2] at h1
      refine ⟨h1.1, ?_⟩
      rcases Nat.lt_or_eq_of_le h1.2 with h3 | h3
      · exact h3
      · exfalso
        have h4 : twZ m = m := (List.takeWhile_sublist _).eq_of_length h3
        have h5 := twZ_no m 0 (by rw [h4]; exact List.mem_of_mem_take hm)
        exact h5 rfl
    rcases h with h | h | h
    · right
      rw [nameOk_none (twZ_no m)] at h
      have : ¬ 1 ≤ (twZ m).length := by
        intro h1
        rw [decide_eq_true h1, decide_eq_true hl.1] at h
        cases h
      exact List.length_eq_zero_iff.1 (show (twZ m).length = 0 by omega)
    · omega
    · left; exact h
  · rw [if_neg hc]; right; rfl
theorem step_ok {m : List UInt8} {N : List (List UInt8)} (h1 : nameOk (twZ m) = true) (h2 : ¬ (twZ m).length = m.length) (h3 : ¬ twZ m ∈ N) : nmP m = twZ m ∧ ¬ nmP m ∈ N ∧ ¬ nmP m = [] := by
  have hl := name_len h1
  have hlt : (twZ m).length < m.length := by have := twZ_le m; omega
  have hz := twZ_end m hlt
  have hc : (m.take 65).contains 0 = true := by
    have : (0 : UInt8) ∈ m.take 65 := List.mem_of_getElem? (i := (twZ m).length) (by rw [List.getElem?_take, if_pos (by omega)]; exact hz)
    simpa using this
  have e : nmP m = twZ m := by unfold nmP; rw [if_pos hc]; rfl
  rw [e]
  exact ⟨rfl, h3, name_ne h1⟩
theorem num_any (k : Int) (w : World) : Calls Tryd.prog 13 #[.int .i64 k] w fun e w' => e = .returned (.int .i64 k) ∧ w = w' := by
  go_enter Tryd.func13, Tryd.ntmps13
  go_wp2
  go_ret
  exact ⟨rfl, rfl⟩
theorem owns_base {B B' e sz n : Nat} {w : World} {v : Value} {xs : List Value} (h : w.ownsRow B e sz v n xs) (hb : B' ≤ B) : w.ownsRow B' e sz v n xs := by
  refine ⟨h.1, ?_⟩
  rcases h.2 with h0 | ⟨g, cap, cur, h1, h2, h3⟩
  · exact .inl h0
  · exact .inr ⟨g, cap, cur, h1, Nat.le_trans hb h2, h3⟩
set_option maxRecDepth 4000 in
set_option maxHeartbeats 2000000 in
theorem rbytes_any (a : Option Addr) (c : Nat) (N : List (List UInt8)) (w : World) (h : RT w a N) (hc : N.length ≤ c) (hb : szF 1 N ≤ 1000000000000) : Calls Tryd.prog 33 #[.agg #[.slice a N.length c]] w fun e w' => ∃ a' c', e = .returned (.slice a' (byP N).length c') ∧ OwB w.heap.size (.slice a' (byP N).length c') (byP N) w' ∧ Out w w' := by
  obtain ⟨i0, hi, hz0, hz1, hz2⟩ := info_parts infoB
  have hn := szF_ge N 1
  have hnn : N.length ≤ 1000000000000 := by omega
  have hnI : (N.length : Int) ≤ 1000000000000 := by omega
  have hcI : (N.length : Int) ≤ c := by omega
  obtain ⟨w1, hw1⟩ : ∃ w1, w1 = w.alloc (tabO a N.length c) := ⟨_, rfl⟩
  have hs1 : w1.heap.size = w.heap.size + 1 := by rw [hw1, size_alloc]
  have Hs1 := hidOf hs1
  have Ho : Hid (Out w w1) := by rw [hw1]; exact (Out.refl w).alloc _
  have Ho1 : Hid (Out w1 (w1.alloc (.cells #[.int .u8 0] 5 (0, 0)))) := (Out.refl _).alloc _
  have HW1 : Hid (OwB w1.heap.size (.slice (some ⟨w1.heap.size, 0, none⟩) 1 1) [0] (w1.alloc (.cells #[.int .u8 0] 5 (0, 0)))) := hidOf ⟨rfl, .inr ⟨w1.heap.size, 1, #[.int .u8 0], rfl, Nat.le_refl _, heap_alloc_new _ _, Nat.le_refl _, by unfold maxLen; omega, rfl, rfl⟩⟩
  have Hc0 : Hid (∀ wx, Out w1 wx → wx.cell? ⟨w.heap.size, 0, none⟩ = some (.slice a N.length c)) := hidOf (fun wx o => cell_later o (by rw [hw1]; exact cell_fresh _ _ _ _ _ rfl))
  have HRT : Hid (∀ wx, Out w1 wx → RT wx a N) := hidOf (fun wx o => h.out (Ho.out.trans o))
  have H := hidOf h
  have Hb := hidOf hb
  clear h hb
  go_enter Tryd.func33, Tryd.ntmps33
  go_wp2
  rw [show w.alloc (.cells #[.slice a N.length c] 70) = w1 from hw1.symm, ← hs1]
  clear hw1 hs1 H
  generalize w.heap.size = p at *
  generalize w1.alloc (.cells #[.int .u8 0] 5) = w2 at *
  go_loopw [3, 4] (fun bv iv wr => ∃ (k : Nat) (O : List UInt8) (ba : Option Addr) (bc : Nat), iv = .int .i64 k ∧ bv = .slice ba O.length bc ∧ k ≤ N.length ∧ O.length ≤ 1000000000000 ∧ Hid (O = byP (N.take k)) ∧ Hid (OwB w1.heap.size (.slice ba O.length bc) O wr) ∧ Hid (Out w1 wr)) (fun _ iv _ => N.length - (intOf iv).toNat)
  case atStart => exact ⟨0, [0], _, _, rfl, rfl, by omega, by simp, rfl, HW1.out, Ho1.out⟩
  case round =>
    obtain ⟨k, O, ba, bc, rfl, rfl, hk, hOl, HO, HB, Ho2⟩ := hrel
    have c0 := Hc0.out wr Ho2.out
    by_cases hkN : k < N.length
    · have hlt : (k : Int) < N.length := by omega
      have h0 : (0 : Int) ≤ k := by omega
      obtain ⟨x, hx⟩ : ∃ x, N[k]? = some x := ⟨_, List.getElem?_eq_getElem hkN⟩
      obtain ⟨b, off, rfl, hb, d⟩ := StrAt.get (HRT.out wr Ho2.out) hx
      have Hx := hidOf hx
      have hsz : (⟨x.toArray⟩ : ByteArray).size = x.length := mk_size x
      have hlen : szF 1 (N.take (k + 1)) = O.length + x.length + 1 := by rw [take_snoc hx, szF_snoc, ← byP_len, ← HO.out]
      have hle := szF_take N (k + 1)
      have hxl : O.length + x.length + 1 ≤ 1000000000000 := by have := Hb.out; omega
      have hsz' : w1.heap.size ≤ wr.heap.size := Ho2.out.size
      clear hx hlen hle hb
      go_wp2_with (first | (at_builtin; refine Lib.wpList_append_own_string _ rfl _ _ 43 9 rfl w1.heap.size 5 i0 Tryd.underlying43 Tryd.underlying9 hi hz0 hz1 hz2 (.slice ba O.length bc) O.length (Lib.byteCells O) rfl HB.out ⟨x.toArray⟩ rfl (by rw [hsz]; unfold maxLen; omega) (by rw [hsz]; omega) hsz' ?_; intro v3 w3 hown3 hgrow3 _; rw [hsz, bc_str, ← bc_app] at hown3; have HO3 := hidOf hown3; have Ho3 := hidOf (out_row Ho2.out HB.out hgrow3); clear hgrow3; obtain ⟨a3, c3, rfl⟩ := own_form hown3; clear hown3) | (at_builtin; refine wpList_append_own _ rfl (.tmp 20) (.tmp 21) 43 rfl w1.heap.size 5 i0 _ 1 1 Tryd.underlying43 hi hz0 hz1 hz2 rfl (by decide) (.slice a3 (O.length + x.length) c3) (O.length + x.length) (Lib.byteCells (O ++ x)) rfl (HO3.out.alloc _) ⟨w3.heap.size, 0, none⟩ 1 1 [.int .u8 0] rfl rfl (news_new w3 _ _ _ rfl) (fun u hu => by rw [List.mem_singleton.1 hu]; rfl) (by unfold maxLen; omega) (by omega) (by have := Ho3.out.size; rw [size_alloc]; omega) ?_; intro v4 w4 hown4 hgrow4 _; have HO4 := hidOf hown4; have Ho4 := hidOf (out_row (Ho3.out.alloc _) (HO3.out.alloc _) hgrow4); clear hgrow4; obtain ⟨a4, c4, rfl⟩ := own_form hown4; clear hown4))
      go_roundw
      case rel =>
        have e1 : byP (N.take (k + 1)) = O ++ x ++ [0] := by rw [take_snoc Hx.out, byP_snoc, ← HO.out]
        have e2 : (byP (N.take (k + 1))).length = O.length + x.length + 1 := by rw [e1]; simp; omega
        refine ⟨k + 1, byP (N.take (k + 1)), a4, c4, by simp, by rw [e2], by omega, by rw [e2]; exact hxl, rfl, ?_, Ho4.out⟩
        show World.ownsRow _ _ _ _ _ _ _
        rw [e2, e1, bc_app]
        exact HO4.out
      case measure => simp [intOf]; omega
    · have hlt : ¬ (k : Int) < N.length := by omega
      obtain rfl : k = N.length := by omega
      rw [List.take_length] at HO
      have HO' := HO.out
      subst HO'
      go_wp2
      go_ret
      exact ⟨_, _, rfl, owns_base HB.out (by have := Ho.out.size; have := Hs1.out; omega), Ho.out.trans Ho2.out⟩
end Go.Proofs.YtfmcoffmgdcciaaDoor
