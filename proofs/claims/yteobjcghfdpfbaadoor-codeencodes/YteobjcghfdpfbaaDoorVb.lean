import Derived.Test.YteobjcghfdpfbaaDoorUn
import Derived.Test.YteobjcghfdpfbaaDoorDn
import Derived.Test.YteobjcghfdpfbaaDoorLg
import Derived.Test.YteobjcghfdpfbaaDoorLi
import Derived.Deep.RegionLaw
namespace Go.Proofs.YteobjcghfdpfbaaDoor
open Go.RowKit
set_option linter.unusedVariables false
set_option linter.unusedSimpArgs false
def shN (v : Int) : Nat → Int
  | 0 => v
  | j + 1 => shN v j / 256
/-- a number in k bytes, the lowest first -/
def numB (v : Int) (k : Nat) : List Int := (List.range k).map (fun j => shN v j % 256)
theorem numB_len (v : Int) (k : Nat) : (numB v k).length = k := by simp [numB]
theorem numB_succ (v : Int) (k : Nat) : numB v (k + 1) = numB v k ++ [shN v k % 256] := by simp [numB, List.range_succ]
theorem shN_rng (v : Int) (k : Nat) (h0 : -9223372036854775808 ≤ v) (h1 : v ≤ 9223372036854775807) : -9223372036854775808 ≤ shN v k ∧ shN v k ≤ 9223372036854775807 := by
  induction k with
  | zero => exact ⟨h0, h1⟩
  | succ k ih => simp only [shN]; omega
theorem numB_two (v : Int) : numB v 2 = [v % 256, v / 256 % 256] := rfl
theorem numB_four (v : Int) : numB v 4 = by4 v := by
  show [v % 256, v / 256 % 256, v / 256 / 256 % 256, v / 256 / 256 / 256 % 256] = _
  rw [by4, show v / 256 / 256 = v / 65536 by omega, show v / 65536 / 256 = v / 16777216 by omega]
theorem and255 (x : Int) : bits .and .i64 x 255 = x % 256 := by
  have h : bits .and .i64 x 255 = IntKind.i64.wrap (((BitVec.ofInt 64 x &&& BitVec.ofInt 64 255).toNat : Nat) : Int) := rfl
  have h2 : (BitVec.ofInt 64 x &&& BitVec.ofInt 64 255).toNat = (x % 18446744073709551616).toNat % 256 := by
    rw [BitVec.toNat_and, show (BitVec.ofInt 64 255).toNat = 2 ^ 8 - 1 from rfl, Nat.and_two_pow_sub_one_eq_mod, BitVec.toNat_ofInt]
    rfl
  rw [h, h2, IntKind.wrap_i64]
  omega
theorem number_any (w : World) (v : Int) (k : Nat) (hk : k ≤ 8) (h0 : -9223372036854775808 ≤ v) (h1 : v ≤ 9223372036854775807) : Calls Tryd.prog 48 #[.int .i64 v, .int .i64 k] w fun e w' => ∃ a c, e = .returned (.slice a k c) ∧ w'.ownsRow w.heap.size 5 1 (.slice a k c) k (bV (numB v k)) ∧ Out w w' := by
  obtain ⟨i0, hi0, hz0, hz1, hz2⟩ := info_parts info8
  go_enter Tryd.func48, Tryd.ntmps48
  go_wp2
  go_loopw [0, 5, 6] (fun vv ov iv wr => ∃ (j : Nat) (a : Option Addr) (c : Nat), j ≤ k ∧ iv = .int .i64 j ∧ vv = .int .i64 (shN v j) ∧ ov = .slice a j c ∧ Hid (wr.ownsRow w.heap.size 5 1 (.slice a j c) j (bV (numB v j))) ∧ Hid (Out w wr)) (fun _ _ iv _ => k - (intOf iv).toNat)
  case atStart => exact ⟨0, none, 0, by omega, rfl, rfl, rfl, hidOf (World.ownsRow_nil _ _ _ _), hidOf (Out.refl _)⟩
  case round =>
    obtain ⟨j, a, c, hj, rfl, rfl, rfl, Ho, Hw⟩ := hrel
    by_cases hjk : j < k
    · have hlt : (j : Int) < k := by omega
      obtain ⟨r0, r1⟩ := shN_rng v j h0 h1
      have hsucc := numB_succ v j
      have Hsucc := hidOf hsucc
      have Hsh : Hid (shN v (j + 1) = shN v j / 256) := rfl
      generalize shN v j = z at *
      clear hsucc
      have Ha := hidOf (and255 z)
      go_wp2_with (at_builtin; rw [Ha.out]; go_loud (refine wpList_append_two rfl (.tmp 12) (.tmp 16) 30 rfl w.heap.size 5 i0 _ 1 Tryd.underlying30 hi0 hz0 hz1 hz2 rfl (.slice a j c) j (bV (numB v j)) rfl (owns_alloc Ho.out _) ⟨wr.heap.size, 0, none⟩ 1 1 [.int .u8 (z % 256 % 256)] (by omega) rfl rfl (news_new _ #[.int .u8 (z % 256 % 256)] _ _ rfl) (bV_one [z % 256 % 256]) (by omega) (by omega) (Nat.le_trans Hw.out.size (by rw [size_alloc]; omega)) ?_); intro v1 w1 hown1 hgrow1 hat1; obtain ⟨a1, c1, rfl⟩ := hat1.form; have Hown1 := hidOf hown1; have Hgr1 := hidOf hgrow1; clear hown1 hgrow1 hat1)
      go_roundw
      case rel =>
        refine ⟨j + 1, a1, c1, by omega, by simp, ?_, rfl, ?_, ?_⟩
        · rw [Hsh.out]
        · rw [Hsucc.out, bV_app]
          have h := Hown1.out
          rw [show z % 256 % 256 = z % 256 by omega] at h
          exact h
        · cases hb : (Value.slice a j c).ownBlock with
          | none =>
            have hg := Hgr1.out
            rw [hb] at hg
            exact hidOf (Out.trans (Hw.out.alloc _) ⟨hg.os, hg.tape, hg.output, hg.size, fun k hk => hg.block k hk (by simp)⟩)
          | some g =>
            have hg := Hgr1.out
            rw [hb] at hg
            exact hidOf (out_grown (Hw.out.alloc _) hg (World.ownsRow.lt Ho.out g hb).1)
      case measure => simp [intOf]; omega
    · have hlt : ¬ (j : Int) < k := by omega
      obtain rfl : j = k := by omega
      go_wp2
      go_ret
      exact ⟨a, c, rfl, Ho.out, Hw.out⟩
open Go.RowKit
set_option linter.unusedVariables false
set_option linter.unusedSimpArgs false
theorem out_growB {w wA w' : World} {v : Value} {B n : Nat} {e : TypeId} {xs : List Value} (o : Out w wA) (hg : wA.grownBy w' v.ownBlock) (ho : wA.ownsRow B e 1 v n xs) (hB : w.heap.size ≤ B) : Out w w' := by
  cases hb : v.ownBlock with
  | none =>
    rw [hb] at hg
    exact Out.trans o ⟨hg.os, hg.tape, hg.output, hg.size, fun k hk => hg.block k hk (by simp)⟩
  | some g =>
    rw [hb] at hg
    exact out_grown o hg (Nat.le_trans hB (World.ownsRow.lt ho g hb).1)
theorem refMay_same (o d s f i : Int) (w : World) : Calls Tryd.prog 30 #[.agg #[.int .i64 o, .int .i64 d, .int .i64 s, .int .i64 f, .int .i64 i]] w fun e w' => e = .returned (.int .i64 (mayP o d s f i)) ∧ Out w w' := by
  rw [may_same]; exact refMay_any o d s f i w
theorem owns_lit (w : World) (l : List Int) (h : l.length ≤ maxLen) : (w.alloc (.cells (bV l).toArray 5)).ownsRow w.heap.size 5 1 (.slice (some ⟨w.heap.size, 0, none⟩) l.length l.length) l.length (bV l) :=
  ⟨by rw [bV_len, Nat.mul_one], .inr ⟨w.heap.size, l.length, _, rfl, Nat.le_refl _, heap_alloc_new w _, Nat.le_refl _, h, by simp [bV_len], by simp [bV]; exact List.take_of_length_le (by simp)⟩⟩
theorem number_pos (w : World) (v : Int) (k : Nat) (hk0 : 0 < k) (hk : k ≤ 8) (h0 : -9223372036854775808 ≤ v) (h1 : v ≤ 9223372036854775807) : Calls Tryd.prog 48 #[.int .i64 v, .int .i64 k] w fun e w' => ∃ g c, e = .returned (.slice (some ⟨g, 0, none⟩) k c) ∧ w'.ownsRow w.heap.size 5 1 (.slice (some ⟨g, 0, none⟩) k c) k (bV (numB v k)) ∧ Out w w' := by
  refine (number_any w v k hk h0 h1).mono ?_
  rintro e w' ⟨a, c, rfl, ho, h⟩
  obtain ⟨g, c', e⟩ := row_form ho hk0
  rw [e] at ho ⊢
  exact ⟨g, c', rfl, ho, h⟩
set_option maxRecDepth 20000 in
theorem bytes_narrow (w : World) (o d s f i : Int) (hx : Fit ⟨o, d, s, f, i⟩) (hw : isW o = false) : Calls Tryd.prog 31 #[.agg #[.int .i64 o, .int .i64 d, .int .i64 s, .int .i64 f, .int .i64 i]] w fun e w' => ∃ a c, e = .returned (.slice a 8 c) ∧ w'.ownsRow w.heap.size 5 1 (.slice a 8 c) 8 (bV (enc1 ⟨o, d, s, f, i⟩)) ∧ Out w w' := by
  obtain ⟨i0, hi0, hz0, hz1, hz2⟩ := info_parts info8
  obtain ⟨q1, q2, q3, q4, q5, q6, q7, q8, q9, q10, q11, q12⟩ := hx
  simp only at q1 q2 q3 q4 q5 q6 q7 q8 q9 q10 q11 q12
  clear q9 q10
  have hbx := Box.new w o d s f i 55
  have HoB : Hid (Out w (w.alloc (.cells #[.int .i64 o, .int .i64 d, .int .i64 s, .int .i64 f, .int .i64 i] 55))) := (Out.refl w).alloc _
  obtain ⟨b0, b1, b2, b3, b4⟩ := hbx
  go_enter Tryd.func31, Tryd.ntmps31
  go_upto_region 1 with fail
  generalize w.alloc (.cells #[.int .i64 o, .int .i64 d, .int .i64 s, .int .i64 f, .int .i64 i] 55) = wB at *
  go_upto_region 2 with fail
  have H1 : Hid ((wB.alloc (.cells #[.int .u8 o, .int .u8 (d + 16 * s)] 5)).ownsRow wB.heap.size 5 1 (.slice (some ⟨wB.heap.size, 0, none⟩) 2 2) 2 (bV [o, d + 16 * s])) := owns_lit wB [o, d + 16 * s] (by simp [maxLen])
  have Ho1 : Hid (Out wB (wB.alloc (.cells #[.int .u8 o, .int .u8 (d + 16 * s)] 5))) := (Out.refl wB).alloc _
  generalize wB.alloc (.cells #[.int .u8 o, .int .u8 (d + 16 * s)] 5) = w1 at *
  have e3 := cell_later Ho1.out b3
  go_upto_region 3 with (first | (go_at_call 48; refine (number_pos _ f 2 (by omega) (by omega) (by omega) (by omega)).mono ?_; rintro e w2 ⟨g2, c2, rfl, hown2, ho2⟩; have Ho2 := hidOf (Out.trans Ho1.out ho2); have H2 := hidOf (owns_out H1.out ho2); have Hn2 := hidOf hown2; clear hown2 ho2) | (at_builtin; refine wpList_append_two rfl (.tmp 15) (.tmp 18) 30 rfl wB.heap.size 5 i0 _ 1 Tryd.underlying30 hi0 hz0 hz1 hz2 rfl _ 2 _ rfl H2.out ⟨g2, 0, none⟩ 2 c2 (bV (numB f 2)) (by omega) rfl (by rw [bV_len, numB_len]) (fun j u hu => Hn2.out.cells (g := g2) rfl j u hu) (bV_one _) (by omega) (by omega) Ho2.out.size ?_; intro v3 w3 hown3 hgrow3 hat3; obtain ⟨a3, c3, rfl⟩ := hat3.form; have Ho3 := hidOf (out_growB Ho2.out hgrow3 H2.out (Nat.le_refl _)); have H3 := hidOf hown3; clear hown3 hgrow3 hat3))
  have e4 := cell_later Ho3.out b4
  clear e3
  go_upto_region 4 with (first | (go_at_call 48; refine (number_pos _ i 4 (by omega) (by omega) (by omega) (by omega)).mono ?_; rintro e w4 ⟨g4, c4, rfl, hown4, ho4⟩; have Ho4 := hidOf (Out.trans Ho3.out ho4); have H4 := hidOf (owns_out H3.out ho4); have Hn4 := hidOf hown4; clear hown4 ho4) | (at_builtin; refine wpList_append_two rfl (.tmp 20) (.tmp 23) 30 rfl wB.heap.size 5 i0 _ 1 Tryd.underlying30 hi0 hz0 hz1 hz2 rfl _ (2 + 2) _ rfl H4.out ⟨g4, 0, none⟩ 4 c4 (bV (numB i 4)) (by omega) rfl (by rw [bV_len, numB_len]) (fun j u hu => Hn4.out.cells (g := g4) rfl j u hu) (bV_one _) (by omega) (by omega) Ho4.out.size ?_; intro v5 w5 hown5 hgrow5 hat5; obtain ⟨a5, c5, rfl⟩ := hat5.form; have Ho5 := hidOf (out_growB Ho4.out hgrow5 H4.out (Nat.le_refl _)); have H5 := hidOf hown5; clear hown5 hgrow5 hat5))
  clear e4
  have e0 := cell_later Ho5.out b0
  go_wp2_with (go_at_call 49; refine (refWide_any _ _).mono ?_; rw [hw]; rintro e w6 ⟨rfl, rfl⟩)
  go_ret
  refine ⟨a5, c5, rfl, ?_, Out.trans HoB.out Ho5.out⟩
  have h := owns_lower (B := w.heap.size) H5.out HoB.out.size
  rw [← bV_app, ← bV_app, numB_four, numB_two] at h
  have e : enc1 ⟨o, d, s, f, i⟩ = [o, d + 16 * s] ++ [f % 256, f / 256 % 256] ++ by4 i := by simp [enc1, encT, hw]; omega
  rw [e]; exact h
set_option maxRecDepth 20000 in
theorem bytes_wide (w : World) (o d s f i : Int) (hx : Fit ⟨o, d, s, f, i⟩) (hw : isW o = true) : Calls Tryd.prog 31 #[.agg #[.int .i64 o, .int .i64 d, .int .i64 s, .int .i64 f, .int .i64 i]] w fun e w' => ∃ a c, e = .returned (.slice a 16 c) ∧ w'.ownsRow w.heap.size 5 1 (.slice a 16 c) 16 (bV (enc1 ⟨o, d, s, f, i⟩)) ∧ Out w w' := by
  obtain ⟨i0, hi0, hz0, hz1, hz2⟩ := info_parts info8
  obtain ⟨q1, q2, q3, q4, q5, q6, q7, q8, q9, q10, q11, q12⟩ := hx
  simp only at q1 q2 q3 q4 q5 q6 q7 q8 q9 q10 q11 q12
  clear q9 q10
  have hbx := Box.new w o d s f i 55
  have HoB : Hid (Out w (w.alloc (.cells #[.int .i64 o, .int .i64 d, .int .i64 s, .int .i64 f, .int .i64 i] 55))) := (Out.refl w).alloc _
  obtain ⟨b0, b1, b2, b3, b4⟩ := hbx
  go_enter Tryd.func31, Tryd.ntmps31
  go_upto_region 1 with fail
  generalize w.alloc (.cells #[.int .i64 o, .int .i64 d, .int .i64 s, .int .i64 f, .int .i64 i] 55) = wB at *
  go_upto_region 2 with fail
  have H1 : Hid ((wB.alloc (.cells #[.int .u8 o, .int .u8 (d + 16 * s)] 5)).ownsRow wB.heap.size 5 1 (.slice (some ⟨wB.heap.size, 0, none⟩) 2 2) 2 (bV [o, d + 16 * s])) := owns_lit wB [o, d + 16 * s] (by simp [maxLen])
  have Ho1 : Hid (Out wB (wB.alloc (.cells #[.int .u8 o, .int .u8 (d + 16 * s)] 5))) := (Out.refl wB).alloc _
  generalize wB.alloc (.cells #[.int .u8 o, .int .u8 (d + 16 * s)] 5) = w1 at *
  have e3 := cell_later Ho1.out b3
  go_upto_region 3 with (first | (go_at_call 48; refine (number_pos _ f 2 (by omega) (by omega) (by omega) (by omega)).mono ?_; rintro e w2 ⟨g2, c2, rfl, hown2, ho2⟩; have Ho2 := hidOf (Out.trans Ho1.out ho2); have H2 := hidOf (owns_out H1.out ho2); have Hn2 := hidOf hown2; clear hown2 ho2) | (at_builtin; refine wpList_append_two rfl (.tmp 15) (.tmp 18) 30 rfl wB.heap.size 5 i0 _ 1 Tryd.underlying30 hi0 hz0 hz1 hz2 rfl _ 2 _ rfl H2.out ⟨g2, 0, none⟩ 2 c2 (bV (numB f 2)) (by omega) rfl (by rw [bV_len, numB_len]) (fun j u hu => Hn2.out.cells (g := g2) rfl j u hu) (bV_one _) (by omega) (by omega) Ho2.out.size ?_; intro v3 w3 hown3 hgrow3 hat3; obtain ⟨a3, c3, rfl⟩ := hat3.form; have Ho3 := hidOf (out_growB Ho2.out hgrow3 H2.out (Nat.le_refl _)); have H3 := hidOf hown3; clear hown3 hgrow3 hat3))
  have e4 := cell_later Ho3.out b4
  clear e3
  go_upto_region 4 with (first | (go_at_call 48; refine (number_pos _ i 4 (by omega) (by omega) (by omega) (by omega)).mono ?_; rintro e w4 ⟨g4, c4, rfl, hown4, ho4⟩; have Ho4 := hidOf (Out.trans Ho3.out ho4); have H4 := hidOf (owns_out H3.out ho4); have Hn4 := hidOf hown4; clear hown4 ho4) | (at_builtin; refine wpList_append_two rfl (.tmp 20) (.tmp 23) 30 rfl wB.heap.size 5 i0 _ 1 Tryd.underlying30 hi0 hz0 hz1 hz2 rfl _ (2 + 2) _ rfl H4.out ⟨g4, 0, none⟩ 4 c4 (bV (numB i 4)) (by omega) rfl (by rw [bV_len, numB_len]) (fun j u hu => Hn4.out.cells (g := g4) rfl j u hu) (bV_one _) (by omega) (by omega) Ho4.out.size ?_; intro v5 w5 hown5 hgrow5 hat5; obtain ⟨a5, c5, rfl⟩ := hat5.form; have Ho5 := hidOf (out_growB Ho4.out hgrow5 H4.out (Nat.le_refl _)); have H5 := hidOf hown5; clear hown5 hgrow5 hat5))
  clear e4
  have e0 := cell_later Ho5.out b0
  go_upto_region 5 with (go_at_call 49; refine (refWide_any _ _).mono ?_; rw [hw]; rintro e w6 ⟨rfl, rfl⟩)
  go_upto_region 6 with (at_builtin; refine wpList_append_two rfl (.tmp 28) (.tmp 29) 30 rfl wB.heap.size 5 i0 _ 1 Tryd.underlying30 hi0 hz0 hz1 hz2 rfl _ (2 + 2 + 4) _ rfl (owns_alloc H5.out _) ⟨w5.heap.size, 0, none⟩ 4 4 (bV [0, 0, 0, 0]) (by omega) rfl rfl (news_new _ #[.int .u8 0, .int .u8 0, .int .u8 0, .int .u8 0] _ _ rfl) (bV_one _) (by omega) (by omega) (Ho5.out.alloc _).size ?_; intro v7 w7 hown7 hgrow7 hat7; obtain ⟨a7, c7, rfl⟩ := hat7.form; have Ho7 := hidOf (out_growB (Ho5.out.alloc _) hgrow7 (owns_alloc H5.out _) (Nat.le_refl _)); have H7 := hidOf hown7; clear hown7 hgrow7 hat7)
  have e4 := cell_later Ho7.out b4
  clear e0
  go_wp2_with (first | (go_at_call 48; refine (number_pos _ (i / 4294967296) 4 (by omega) (by omega) (by omega) (by omega)).mono ?_; rintro e w8 ⟨g8, c8, rfl, hown8, ho8⟩; have Ho8 := hidOf (Out.trans Ho7.out ho8); have H8 := hidOf (owns_out H7.out ho8); have Hn8 := hidOf hown8; clear hown8 ho8) | (at_builtin; refine wpList_append_two rfl (.tmp 31) (.tmp 35) 30 rfl wB.heap.size 5 i0 _ 1 Tryd.underlying30 hi0 hz0 hz1 hz2 rfl _ (2 + 2 + 4 + 4) _ rfl H8.out ⟨g8, 0, none⟩ 4 c8 (bV (numB (i / 4294967296) 4)) (by omega) rfl (by rw [bV_len, numB_len]) (fun j u hu => Hn8.out.cells (g := g8) rfl j u hu) (bV_one _) (by omega) (by omega) Ho8.out.size ?_; intro v9 w9 hown9 hgrow9 hat9; obtain ⟨a9, c9, rfl⟩ := hat9.form; have Ho9 := hidOf (out_growB Ho8.out hgrow9 H8.out (Nat.le_refl _)); have H9 := hidOf hown9; clear hown9 hgrow9 hat9))
  go_ret
  refine ⟨a9, c9, rfl, ?_, Out.trans HoB.out Ho9.out⟩
  have h := owns_lower (B := w.heap.size) H9.out HoB.out.size
  rw [← bV_app, ← bV_app, ← bV_app, ← bV_app, numB_four, numB_four, numB_two] at h
  have e : enc1 ⟨o, d, s, f, i⟩ = [o, d + 16 * s] ++ [f % 256, f / 256 % 256] ++ by4 i ++ [0, 0, 0, 0] ++ by4 (i / 4294967296) := by simp [enc1, encT, hw]; omega
  rw [e]; exact h
theorem bytes_any (w : World) (o d s f i : Int) (hx : Fit ⟨o, d, s, f, i⟩) (z : Nat) (hz : sizeI o = z) : Calls Tryd.prog 31 #[.agg #[.int .i64 o, .int .i64 d, .int .i64 s, .int .i64 f, .int .i64 i]] w fun e w' => ∃ g c, e = .returned (.slice (some ⟨g, 0, none⟩) z c) ∧ w'.ownsRow w.heap.size 5 1 (.slice (some ⟨g, 0, none⟩) z c) z (bV (enc1 ⟨o, d, s, f, i⟩)) ∧ Out w w' := by
  have key : ∀ e w', (∃ a c, e = Ending.returned (.slice a z c) ∧ w'.ownsRow w.heap.size 5 1 (.slice a z c) z (bV (enc1 ⟨o, d, s, f, i⟩)) ∧ Out w w') → 0 < z → ∃ g c, e = Ending.returned (.slice (some ⟨g, 0, none⟩) z c) ∧ w'.ownsRow w.heap.size 5 1 (.slice (some ⟨g, 0, none⟩) z c) z (bV (enc1 ⟨o, d, s, f, i⟩)) ∧ Out w w' := by
    rintro e w' ⟨a, c, rfl, ho, h⟩ hz0
    obtain ⟨g, c', e⟩ := row_form ho hz0
    rw [e] at ho ⊢
    exact ⟨g, c', rfl, ho, h⟩
  cases hw : isW o
  · obtain rfl : z = 8 := by rw [← hz]; simp [sizeI, hw]
    exact (bytes_narrow w o d s f i hx hw).mono fun e w' h => key e w' h (by omega)
  · obtain rfl : z = 16 := by rw [← hz]; simp [sizeI, hw]
    exact (bytes_wide w o d s f i hx hw).mono fun e w' h => key e w' h (by omega)
/-- the reference's Encode -/
def EncR (w w' : World) (l : List Ins) (v : Value) (k f : Int) : Prop :=
  (v = .slice none 0 0 ∧ RefIs l k f ∧ f ≠ 0) ∨ (k = 0 ∧ f = 0 ∧ (∀ x ∈ l, may x = 0) ∧ OwnB w w' v (encL l))
set_option maxRecDepth 20000 in
theorem refEncode_any (w : World) (a : Option Addr) (n cap : Nat) (l : List Ins) (hn : l.length = n) (hi : InsA w a l) (hm : n ≤ 3518437208780) (hI : ∀ x ∈ l, -9223372036854775808 ≤ x.i ∧ x.i ≤ 9223372036854775807) :
    Calls Tryd.prog 11 #[.slice a n cap] w fun e w' => ∃ v k f, e = .returned (.tuple #[v, .int .i64 k, .int .i64 f]) ∧ EncR w w' l v k f ∧ Out w w' := by
  obtain ⟨i0, hi0, hz0, hz1, hz2⟩ := info_parts info8
  have Hn := hidOf hn
  have HI := hidOf hI
  have Hi := hidOf hi
  clear hn hI hi
  go_enter Tryd.func11, Tryd.ntmps11
  go_wp2
  go_loopw [5, 6] (fun ov iv wr => ∃ (j m : Nat) (a1 : Option Addr) (c1 : Nat), j ≤ n ∧ iv = .int .i64 j ∧ ov = .slice a1 m c1 ∧ Hid ((encL (l.take j)).length = m) ∧ Hid (∀ x ∈ l.take j, may x = 0) ∧ Hid (wr.ownsRow w.heap.size 5 1 (.slice a1 m c1) m (bV (encL (l.take j)))) ∧ Hid (Out w wr)) (fun _ iv _ => n - (intOf iv).toNat)
  case atStart => exact ⟨0, 0, none, 0, by omega, rfl, rfl, rfl, (fun x hx => by simp at hx), hidOf (World.ownsRow_nil _ _ _ _), hidOf (Out.refl _)⟩
  case round =>
    obtain ⟨j, m, a1, c1, hj, rfl, rfl, Hm, Hall, Hown, Hout⟩ := hrel
    by_cases hjn : j < n
    · have hlt : (j : Int) < n := by omega
      obtain ⟨x, hx⟩ : ∃ x, l[j]? = some x := ⟨_, List.getElem?_eq_getElem (by have := Hn.out; omega)⟩
      have Hx := hidOf hx
      have hxm : x ∈ l := List.mem_of_getElem? hx
      have hrng := HI.out x hxm
      rcases Hi.out with hz | ⟨b, off, rfl, hc⟩
      · have := Hn.out; simp [hz] at this; omega
      obtain ⟨d0, d1, d2, d3, d4⟩ := hc j x hx
      have p0 := cell_later Hout.out d0
      have p1 := cell_later Hout.out d1
      have p2 := cell_later Hout.out d2
      have p3 := cell_later Hout.out d3
      have p4 := cell_later Hout.out d4
      obtain ⟨o, d, s, f, i⟩ := x
      simp only at p0 p1 p2 p3 p4 d0 d1 d2 d3 d4
      have hbm : m ≤ 16 * j := by
        have h1 := encL_len (l.take j)
        have h2 := slots_le (l.take j)
        have h3 : (l.take j).length ≤ j := by simp; omega
        rw [Hm.out] at h1
        omega
      have Hd0 := hidOf d0
      have Hd1 := hidOf d1
      have Hd2 := hidOf d2
      have Hd3 := hidOf d3
      have Hd4 := hidOf d4
      clear d0 d1 d2 d3 d4 hc hx
      cases hmay : (mayP o d s f i != 0)
      · have hm0 : mayP o d s f i = 0 := by simpa using hmay
        have Hmay : Hid (may ⟨o, d, s, f, i⟩ = 0) := hm0
        have hfit : Fit ⟨o, d, s, f, i⟩ := may_fit ⟨o, d, s, f, i⟩ Hmay.out hrng.1 hrng.2
        have Hfit := hidOf hfit
        obtain ⟨z, hz⟩ : ∃ z, sizeI o = z := ⟨_, rfl⟩
        have hz1' : z ≤ 16 := by rw [← hz]; unfold sizeI; split <;> omega
        have hz2' : 0 < z := by rw [← hz]; unfold sizeI; split <;> omega
        have Hz := hidOf hz
        have Henc := hidOf (enc_take l j ⟨o, d, s, f, i⟩ Hx.out)
        have Hlen := hidOf (enc1_len ⟨o, d, s, f, i⟩)
        clear hfit hz
        go_upto_region 8 with (go_at_call 30; refine (refMay_same _ _ _ _ _ _).mono ?_; rw [hm0]; rintro e w1 ⟨rfl, ho1⟩; have Ho1 := hidOf (Out.trans Hout.out ho1); have Hown1 := hidOf (owns_out Hown.out ho1); clear ho1)
        have r0 := cell_later Ho1.out Hd0.out
        have r1 := cell_later Ho1.out Hd1.out
        have r2 := cell_later Ho1.out Hd2.out
        have r3 := cell_later Ho1.out Hd3.out
        have r4 := cell_later Ho1.out Hd4.out
        clear p0 p1 p2 p3 p4
        go_wp2_with (first | (go_at_call 31; refine (bytes_any _ o d s f i Hfit.out z Hz.out).mono ?_; rintro e w2 ⟨g2, c2, rfl, hown2, ho2⟩; have Ho2 := hidOf (Out.trans Ho1.out ho2); have H2 := hidOf (owns_out Hown1.out ho2); have Hn2 := hidOf hown2; clear hown2 ho2) | (at_builtin; refine wpList_append_two rfl (.tmp 23) (.tmp 28) 30 rfl w.heap.size 5 i0 _ 1 Tryd.underlying30 hi0 hz0 hz1 hz2 rfl _ m _ rfl H2.out ⟨g2, 0, none⟩ z c2 (bV (enc1 ⟨o, d, s, f, i⟩)) (by omega) rfl (by rw [bV_len, Hlen.out, Hz.out]) (fun j u hu => Hn2.out.cells (g := g2) rfl j u hu) (bV_one _) (by omega) (by omega) Ho2.out.size ?_; intro v3 w3 hown3 hgrow3 hat3; obtain ⟨a3, c3, rfl⟩ := hat3.form; have Ho3 := hidOf (out_growB Ho2.out hgrow3 H2.out (Nat.le_refl _)); have H3 := hidOf hown3; clear hown3 hgrow3 hat3))
        go_roundw
        case rel =>
          refine ⟨j + 1, m + z, a3, c3, by omega, by simp, rfl, ?_, ?_, ?_, Ho3⟩
          · show _ = _
            rw [Henc.out, List.length_append, Hm.out, Hlen.out, Hz.out]
          · intro y hy
            rw [List.take_add_one, Hx.out] at hy
            rcases List.mem_append.1 hy with hy | hy
            · exact Hall.out y hy
            · simp at hy
              subst hy
              exact Hmay.out
          · rw [Henc.out, bV_app]; exact H3
        case measure => simp [intOf]; omega
      · have Hne : Hid (mayP o d s f i ≠ 0) := by show _ ≠ _; simpa using hmay
        go_wp2_with (go_at_call 30; refine (refMay_same _ _ _ _ _ _).mono ?_; rintro e w1 ⟨rfl, ho1⟩; have Ho1 := hidOf (Out.trans Hout.out ho1); clear ho1)
        go_ret3
        refine ⟨_, _, _, rfl, .inl ⟨rfl, .inr ⟨j, _, rfl, Hx.out, rfl, Hne.out, fun j' y hj' hy => ?_⟩, Hne.out⟩, Ho1.out⟩
        exact Hall.out y (List.mem_of_getElem? (by rw [List.getElem?_take, if_pos hj']; exact hy))
    · have hlt : ¬ (j : Int) < n := by omega
      obtain rfl : j = n := by omega
      have e1 : l.take j = l := List.take_of_length_le (by have := Hn.out; omega)
      rw [e1] at Hm Hall Hown
      go_wp2
      go_ret3
      refine ⟨_, _, _, rfl, .inr ⟨rfl, rfl, Hall.out, ?_⟩, Hout.out⟩
      unfold OwnB
      rw [Hm.out]; exact Hown.out
end Go.Proofs.YteobjcghfdpfbaaDoor
