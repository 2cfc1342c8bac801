import Derived.Test.YtpkbchhjcgiiaaaSyx
import Derived.Deep.QuietTactic
import Derived.BigQuiet
namespace Go.Proofs.Ytpkbchhjcgiiaaa
open Go.RowKit
set_option linter.unusedVariables false
set_option linter.unusedSimpArgs false
set_option maxRecDepth 8000 in
set_option maxHeartbeats 400000 in
theorem begins_ind (a : Option Addr) (cap : Nat) (L : List Sy) (ct : Nat) (n : Nat) (w : World) (hr : SyAt w.heap.size w a L) (hc : L.length ≤ cap) (hll : L.length ≤ 2932031007402) (hk : ∀ s ∈ L, SyOk s) (b : List UInt8) (er : Int) (hT : wrP L = (some b, er)) (hct : ct ≤ L.length) (hn1 : 1 ≤ n) (hn2 : n ≤ 23) (hlt : ct < L.length) : Calls Try.prog 7 #[.slice a L.length cap, .int .i64 (ct : Int), .int .i64 (n : Int)] w fun e w' => e = .returned (.bool true) ∧ Out w w' := by
  obtain ⟨i0, hi0, hz0, hz1, hz2⟩ := info_parts infoSm
  have CA := hidOf awake10
  obtain ⟨c, hT2, hcl, hbt, hcb, hcut⟩ := beg_P hT hk ct hct
  obtain ⟨rfl, hbl, _⟩ := back_S hT hk
  have CW : Hid (∀ wx a' c', SyAt wx.heap.size wx a' L → L.length ≤ c' → Calls Try.prog 15 #[.slice a' L.length c'] wx fun e w' => ∃ v, e = .returned (.tuple #[v, .int .i64 0]) ∧ OwB wx.heap.size v b w' ∧ Out wx w') := fun wx a' c' h1 h2 => (write_any wx a' c' L h1 h2 hll hk).mono fun e w' h => by
    have hN : wrN L = 0 := by unfold wrN; rw [hT]
    have hB : wrB L = b := by unfold wrB; rw [hT]; rfl
    have := h.flat
    rwa [hN, hB] at this
  obtain ⟨M, hM⟩ : ∃ M, M = L.take ct := ⟨_, rfl⟩
  rw [← hM] at hT2
  have hMl : M.length = ct := by rw [hM, List.length_take]; omega
  have hkM : ∀ s ∈ M, SyOk s := fun s hs => hk s (by rw [hM] at hs; exact List.mem_of_mem_take hs)
  have CW2 : Hid (∀ wx a' c', SyAt wx.heap.size wx a' M → M.length ≤ c' → Calls Try.prog 15 #[.slice a' M.length c'] wx fun e w' => ∃ v, e = .returned (.tuple #[v, .int .i64 0]) ∧ OwB wx.heap.size v c w' ∧ Out wx w') := fun wx a' c' h1 h2 => (write_any wx a' c' M h1 h2 (by omega) hkM).mono fun e w' h => by
    have hN : wrN M = 0 := by unfold wrN; rw [hT2]
    have hB : wrB M = c := by unfold wrB; rw [hT2]; rfl
    have := h.flat
    rwa [hN, hB] at this
  have hx0 : ¬ (ct : Int) < 0 := by omega
  have hxl : ¬ (L.length : Int) < ct := by omega
  have HMl := hidOf hMl
  have HF := hidOf (And.intro hbl (And.intro hcl hcb))
  have Hbt := hidOf hbt
  have hA1 : ¬ (n : Int) < 1 := by omega
  have hA2 : ¬ (23 : Int) < n := by omega
  have hEq : ((ct : Int) == L.length) = false := by simp; omega
  have HNN := hidOf hn1
  have HNb := hidOf (And.intro (hcut n hn1 hn2 hlt).2 hn2)
  have Hrd := hidOf (hcut n hn1 hn2 hlt).1
  cases a with
  | none =>
    rcases hr with h | ⟨b, off, _, h, _⟩
    · rw [h] at hlt; simp at hlt
    · cases h
  | some ad =>
    clear hn1 hn2 hlt
    have HC : Hid (∀ wx, Out w wx → ∀ j u, (syV L)[j]? = some u → wx.cell? (ad.add j) = some u) := fun wx o => (hr.out o).news
    have HC2 : Hid (∀ wx, Out w wx → ∀ j u, (syV M)[j]? = some u → wx.cell? (ad.add j) = some u) := fun wx o => by rw [hM]; exact ((hr.out o).take ct).news
    have hctc : (ct : Int) ≤ cap := by omega
    have hct0 : (0 : Int) ≤ ct := by omega
    clear hr hM hMl hbl hcl hcb hT hT2 hk hkM hbt hcut
    go_enter Try.func7, Try.ntmps7
    go_upto_region 4 with (first | (go_at_call 8; refine (CA.out _).mono ?_; rintro e w1 ⟨rfl, hO⟩; have O1 := hidOf hO; clear hO) | (at_builtin; refine wpList_append_own _ rfl (.tmp 17) (.tmp 18) 25 rfl w1.heap.size 57 i0 _ 6 48 Try.underlying25 hi0 hz0 hz1 hz2 rfl (by decide) (.slice (some ⟨w1.heap.size, 0, none⟩) 0 0) 0 [] rfl (owns_void w1 w1.heap.size 6 57 (Nat.le_refl _)) ad L.length cap (syV L) rfl (syV_len L) (HC.out _ (O1.out.alloc _)) (syV_one _) (by unfold maxLen; omega) (by omega) (by rw [size_alloc]; omega) ?_; intro v' w2 hown' hgrow _; have O2 := hidOf (O1.out.trans (out_rowN ((Out.refl w1).alloc _) (owns_void w1 w1.heap.size 6 57 (Nat.le_refl _)) hgrow)); have P2 := hidOf (out_rowN ((Out.refl w1).alloc _) (owns_void w1 w1.heap.size 6 57 (Nat.le_refl _)) hgrow); have HN : OwS w1.heap.size v' L w2 := (by unfold OwS; rw [Nat.zero_add, List.nil_append] at hown';  exact hown'); obtain ⟨a2, c2, rfl, hl2, hr2⟩ := OwS.at HN; have R2 := hidOf hr2; have HL2 := hidOf hl2; clear hown' hgrow HN hr2 hl2) | (go_at_call 15; refine (CW.out w2 a2 c2 R2.out HL2.out).mono ?_; rintro e w3 ⟨v3, rfl, hown, hO⟩; have W3 := hidOf hown; have O3 := hidOf (O2.out.trans hO); clear hown hO))
    obtain ⟨a3, c3, rfl, hl3, hr3⟩ := OwB.rest W3.out
    have R3 := hidOf hr3
    have HL3 := hidOf hl3
    clear hr3 hl3
    go_upto_region 7 with (first | (go_at_call 16; refine (num_any _ _).mono ?_; rintro e w0' ⟨rfl, hw⟩; subst hw) | (at_builtin; refine wpList_append_own _ rfl (.tmp 37) (.tmp 40) 25 rfl w3.heap.size 57 i0 _ 6 48 Try.underlying25 hi0 hz0 hz1 hz2 rfl (by decide) (.slice (some ⟨w3.heap.size, 0, none⟩) 0 0) 0 [] rfl (owns_void w3 w3.heap.size 6 57 (Nat.le_refl _)) ad ct cap (syV M) rfl (by rw [syV_len, HMl.out]) (HC2.out _ (O3.out.alloc _)) (syV_one _) (by unfold maxLen; omega) (by omega) (by rw [size_alloc]; omega) ?_; intro v' w6 hown' hgrow _; have O6 := hidOf (O3.out.trans (out_rowN ((Out.refl w3).alloc _) (owns_void w3 w3.heap.size 6 57 (Nat.le_refl _)) hgrow)); have P6 := hidOf (out_rowN ((Out.refl w3).alloc _) (owns_void w3 w3.heap.size 6 57 (Nat.le_refl _)) hgrow); have HN : OwS w3.heap.size v' M w6 := (by unfold OwS; rw [Nat.zero_add, List.nil_append] at hown'; rw [HMl.out]; exact hown'); obtain ⟨a6, c6, rfl, hl6, hr6⟩ := OwS.at HN; have R6 := hidOf hr6; have HL6 := hidOf hl6; clear hown' hgrow HN hr6 hl6) | (go_at_call 15; refine (CW2.out w6 a6 c6 R6.out HL6.out).mono ?_; rintro e w7 ⟨v7, rfl, hown, hO⟩; have W7 := hidOf hown; have P7 := hidOf (P6.out.trans hO); have O7 := hidOf (O6.out.trans hO); clear hown hO))
    obtain ⟨a7, c7, rfl, hl7, hr7⟩ := OwB.rest W7.out
    have R3' := hidOf (rest_out R3.out P7.out)
    have k1 : ∀ n, (convert 37 9 (.slice a7 c.length c7)).run Try.prog (w7.drewN n) = .ok (.string ⟨c.toArray⟩) (w7.drewN n) := fun n => conv_rest (w := w7.drewN n) (N := w7.heap.size) hr7 c7
    have k2 : ∀ n, (convert 37 9 (.slice a3 c.length c3)).run Try.prog (w7.drewN n) = .ok (.string ⟨c.toArray⟩) (w7.drewN n) := fun n => by
      have h := conv_rest (w := w7.drewN n) (N := w7.heap.size) (R3'.out.take c.length) c3
      rwa [Hbt.out] at h
    have hcI : (c.length : Int) ≤ c3 := by have := HL3.out; have := HF.out; omega
    clear hl7 hr7
    go_quiet ((go_at_call 16; exact Calls.quiet_of_same ((num_any _ _).mono fun e w' h => ⟨h.1, h.2.symm⟩)))
    clear k1 k2
    have hN := HNN.out
    go_upto_region 11 with fail
    obtain ⟨wq, hwq⟩ : ∃ wq, wq = w7.drewN nq := ⟨_, rfl⟩
    rw [← hwq]
    have O7q : Hid (Out w wq) := hidOf (by rw [hwq]; exact O7.out.drewN _)
    have R3q : Hid (RestAt wq.heap.size wq a3 b) := hidOf (by rw [hwq]; exact R3'.out)
    clear hwq
    have hNc : ((c.length + n : Nat) : Int) ≤ c3 := by have := HL3.out; have := HF.out; have := HNb.out; omega
    have hNe : (c.length : Int) + (n : Int) = ((c.length + n : Nat) : Int) := by omega
    have hNb2 : ((c.length + n : Nat) : Int) ≤ 70368744177700 := by have := HF.out; have := HNb.out; omega
    have hN0 : (0 : Int) ≤ ((c.length + n : Nat) : Int) := by omega
    obtain ⟨N, hNN⟩ : ∃ N, N = c.length + n := ⟨_, rfl⟩
    rw [← hNN] at hNc hNe hNb2 hN0
    have HNN2 := hidOf hNN
    have hbl2 : b.length ≤ 70368744177672 := by have := HF.out; omega
    have CC : Hid (Calls Try.prog 12 #[.slice a3 N c3] wq fun e w' => ∃ v, e = .returned v ∧ OwB wq.heap.size v (b.take N) w' ∧ Out wq w') := by
      have hl : (b.take N).length = N := by rw [List.length_take]; have := HNb.out; omega
      have := copyBytes_any wq a3 c3 (b.take N) (R3q.out.take N) (by rw [hl]; have := HNb.out; omega)
      rw [hl] at this
      exact this
    have CR : Hid (∀ wx g off cp, g < wx.heap.size → BAt wx g off (b.take N) → (b.take N).length ≤ cp → Calls Try.prog 17 #[.slice (some ⟨g, off, none⟩) (b.take N).length cp] wx fun e w' => e = .returned (.tuple #[.slice none 0 0, .int .i64 (N : Int), .int .i64 100]) ∧ Out wx w') := fun wx g off cp h1 h2 h3 => (read_any wx g off cp (b.take N) h1 h2 h3 (by rw [List.length_take]; omega)).mono fun e w' hh => by
      rw [hNN, Hrd.out] at hh
      exact ⟨by rw [hh.2, hNN], hh.1⟩
    have hNpos : 0 < (b.take N).length := by rw [List.length_take]; have := HNb.out; have := HF.out; omega
    have Hpos := hidOf hNpos
    generalize b.take N = bn at *
    clear hNN hbl2 hNpos
    go_upto_region 12 with (first | (go_at_call 12; with_reducible refine CC.out.mono ?_; rintro e w8 ⟨v8, rfl, hown, hO⟩; have O8 := hidOf (O7q.out.trans hO); obtain ⟨a8, c8, rfl, hl8, hr8⟩ := OwB.rest hown; obtain ⟨g8, off8, rfl, hg8, hB8⟩ := hr8.at Hpos.out; have CR8 := hidOf (CR.out w8 g8 off8 c8 hg8 hB8 hl8); clear hown hO hl8 hr8 hg8 hB8) | (go_at_call 17; with_reducible refine CR8.out.mono ?_; rintro e w9 ⟨rfl, hO⟩; have O9 := hidOf (O8.out.trans hO); clear hO))
    go_wp2_with (go_at_call 16; refine (num_any _ _).mono ?_; rintro e w0' ⟨rfl, hw⟩; subst hw)
    go_ret
    exact ⟨rfl, O9.out⟩
theorem symtabBegins_walk (a : Option Addr) (cap : Nat) (L : List Sy) (x m : Int) (w : World) (hr : SyAt w.heap.size w a L) (hc : L.length ≤ cap) (hll : L.length ≤ 2932031007402) (hk : ∀ s ∈ L, SyOk s) : Calls Try.prog 7 #[.slice a L.length cap, .int .i64 x, .int .i64 m] w fun e w' => e = .returned (.bool true) ∧ Out w w' := by
  cases hT : wrP L with
  | mk o er =>
    cases o with
    | none => exact begins_no a cap L x m w hr hc hll hk er hT
    | some b =>
      by_cases hx : x < 0 ∨ (L.length : Int) < x
      · exact begins_out a cap L x m w hr hc hll hk b er hT hx
      · obtain ⟨ct, rfl⟩ : ∃ ct : Nat, x = ct := ⟨x.toNat, by omega⟩
        have hct : ct ≤ L.length := by omega
        by_cases h1 : m < 1
        · exact begins_ina a cap L ct m w hr hc hll hk b er hT hct h1
        · by_cases h2 : 23 < m
          · exact begins_inb a cap L ct m w hr hc hll hk b er hT hct ⟨h1, h2⟩
          · by_cases h3 : ct = L.length
            · exact begins_inc a cap L ct m w hr hc hll hk b er hT hct ⟨⟨h1, h2⟩, h3⟩
            · obtain ⟨n, rfl⟩ : ∃ n : Nat, m = n := ⟨m.toNat, by omega⟩
              exact begins_ind a cap L ct n w hr hc hll hk b er hT hct (by omega) (by omega) (by omega)
end Go.Proofs.Ytpkbchhjcgiiaaa
