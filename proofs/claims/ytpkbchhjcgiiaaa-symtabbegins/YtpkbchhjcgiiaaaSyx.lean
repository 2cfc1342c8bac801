import Derived.Test.YtpkbchhjcgiiaaaSyw
import Derived.Deep.QuietTactic
import Derived.BigQuiet
namespace Go.Proofs.Ytpkbchhjcgiiaaa
open Go.RowKit
set_option linter.unusedVariables false
set_option linter.unusedSimpArgs false
set_option maxRecDepth 8000 in
set_option maxHeartbeats 2000000 in
theorem begins_ina (a : Option Addr) (cap : Nat) (L : List Sy) (ct : Nat) (m : Int) (w : World) (hr : SyAt w.heap.size w a L) (hc : L.length ≤ cap) (hll : L.length ≤ 2932031007402) (hk : ∀ s ∈ L, SyOk s) (b : List UInt8) (er : Int) (hT : wrP L = (some b, er)) (hct : ct ≤ L.length) (hA : m < 1) : Calls Try.prog 7 #[.slice a L.length cap, .int .i64 (ct : Int), .int .i64 m] w fun e w' => e = .returned (.bool true) ∧ Out w w' := by
  obtain ⟨i0, hi0, hz0, hz1, hz2⟩ := info_parts infoSm
  have CA := hidOf awake10
  obtain ⟨c, hT2, hcl, hbt, hcb, hcut⟩ := beg_P hT hk ct hct
  obtain ⟨rfl, hbl, _⟩ := back_S hT hk
  have CW : Hid (∀ wx a' c', SyAt wx.heap.size wx a' L → L.length ≤ c' → Calls Try.prog 15 #[.slice a' L.length c'] wx fun e w' => ∃ v, e = .returned (.tuple #[v, .int .i64 0]) ∧ OwB wx.heap.size v b w' ∧ Out wx w') := fun wx a' c' h1 h2 => (write_any wx a' c' L h1 h2 hll hk).mono fun e w' h => by
    have hN : wrN L = 0 := by unfold wrN; rw [hT]
    have hB : wrB L = b := by unfold wrB; rw [hT]; rfl
    have := h.flat
    rwa [hN, hB] at this
  obtain ⟨M, hM⟩ : ∃ M, M = L.take ct := ⟨_, rfl⟩
  rw [← hM] at hT2
  have hMl : M.length = ct := by rw [hM, List.length_take]; omega
  have hkM : ∀ s ∈ M, SyOk s := fun s hs => hk s (by rw [hM] at hs; exact List.mem_of_mem_take hs)
  have CW2 : Hid (∀ wx a' c', SyAt wx.heap.size wx a' M → M.length ≤ c' → Calls Try.prog 15 #[.slice a' M.length c'] wx fun e w' => ∃ v, e = .returned (.tuple #[v, .int .i64 0]) ∧ OwB wx.heap.size v c w' ∧ Out wx w') := fun wx a' c' h1 h2 => (write_any wx a' c' M h1 h2 (by omega) hkM).mono fun e w' h => by
    have hN : wrN M = 0 := by unfold wrN; rw [hT2]
    have hB : wrB M = c := by unfold wrB; rw [hT2]; rfl
    have := h.flat
    rwa [hN, hB] at this
  have hx0 : ¬ (ct : Int) < 0 := by omega
  have hxl : ¬ (L.length : Int) < ct := by omega
  have HMl := hidOf hMl
  have HF := hidOf (And.intro hbl (And.intro hcl hcb))
  have Hbt := hidOf hbt
  cases a with
  | none =>
    obtain rfl : L = [] := by
      rcases hr with h | ⟨b, off, _, h, _⟩
      · exact h
      · cases h
    obtain rfl : ct = 0 := by simpa using hct
    obtain rfl : M = [] := by rw [hM]; simp
    simp only [List.length_nil] at *
    clear hr hM hMl hbl hcl hcb hT hT2 hk hkM hbt hcut
    go_enter Try.func7, Try.ntmps7
    go_upto_region 4 with (first | (go_at_call 8; refine (CA.out _).mono ?_; rintro e w1 ⟨rfl, hO⟩; have O1 := hidOf hO; clear hO) | (go_at_call 15; refine (CW.out (w1.alloc (.cells #[] 57)) _ 0 (.inl rfl) (by simp)).mono ?_; rintro e w3 ⟨v3, rfl, hown, hO⟩; have W3 := hidOf hown; have O3 := hidOf ((O1.out.alloc _).trans hO); clear hown hO))
    obtain ⟨a3, c3, rfl, hl3, hr3⟩ := OwB.rest W3.out
    have R3 := hidOf hr3
    have HL3 := hidOf hl3
    clear hr3 hl3
    go_upto_region 7 with (first | (go_at_call 16; refine (num_any _ _).mono ?_; rintro e w0' ⟨rfl, hw⟩; subst hw) | (go_at_call 15; refine (CW2.out (w3.alloc (.cells #[] 57)) _ 0 (.inl rfl) (by simp)).mono ?_; rintro e w7 ⟨v7, rfl, hown, hO⟩; have W7 := hidOf hown; have P7 := hidOf (((Out.refl w3).alloc _).trans hO); have O7 := hidOf ((O3.out.alloc _).trans hO); clear hown hO))
    obtain ⟨a7, c7, rfl, hl7, hr7⟩ := OwB.rest W7.out
    have R3' := hidOf (rest_out R3.out P7.out)
    have k1 : ∀ n, (convert 37 9 (.slice a7 c.length c7)).run Try.prog (w7.drewN n) = .ok (.string ⟨c.toArray⟩) (w7.drewN n) := fun n => conv_rest (w := w7.drewN n) (N := w7.heap.size) hr7 c7
    have k2 : ∀ n, (convert 37 9 (.slice a3 c.length c3)).run Try.prog (w7.drewN n) = .ok (.string ⟨c.toArray⟩) (w7.drewN n) := fun n => by
      have h := conv_rest (w := w7.drewN n) (N := w7.heap.size) (R3'.out.take c.length) c3
      rwa [Hbt.out] at h
    have hcI : (c.length : Int) ≤ c3 := by have := HL3.out; have := HF.out; omega
    clear hl7 hr7
    go_quiet ((go_at_call 16; exact Calls.quiet_of_same ((num_any _ _).mono fun e w' h => ⟨h.1, h.2.symm⟩)))
    clear k1 k2
    go_wp2
    go_ret
    exact ⟨rfl, O7.out.drewN _⟩
  | some ad =>
    have HC : Hid (∀ wx, Out w wx → ∀ j u, (syV L)[j]? = some u → wx.cell? (ad.add j) = some u) := fun wx o => (hr.out o).news
    have HC2 : Hid (∀ wx, Out w wx → ∀ j u, (syV M)[j]? = some u → wx.cell? (ad.add j) = some u) := fun wx o => by rw [hM]; exact ((hr.out o).take ct).news
    have hctc : (ct : Int) ≤ cap := by omega
    have hct0 : (0 : Int) ≤ ct := by omega
    clear hr hM hMl hbl hcl hcb hT hT2 hk hkM hbt hcut
    go_enter Try.func7, Try.ntmps7
    go_upto_region 4 with (first | (go_at_call 8; refine (CA.out _).mono ?_; rintro e w1 ⟨rfl, hO⟩; have O1 := hidOf hO; clear hO) | (at_builtin; refine wpList_append_own _ rfl (.tmp 17) (.tmp 18) 25 rfl w1.heap.size 57 i0 _ 6 48 Try.underlying25 hi0 hz0 hz1 hz2 rfl (by decide) (.slice (some ⟨w1.heap.size, 0, none⟩) 0 0) 0 [] rfl (owns_void w1 w1.heap.size 6 57 (Nat.le_refl _)) ad L.length cap (syV L) rfl (syV_len L) (HC.out _ (O1.out.alloc _)) (syV_one _) (by unfold maxLen; omega) (by omega) (by rw [size_alloc]; omega) ?_; intro v' w2 hown' hgrow _; have O2 := hidOf (O1.out.trans (out_rowN ((Out.refl w1).alloc _) (owns_void w1 w1.heap.size 6 57 (Nat.le_refl _)) hgrow)); have P2 := hidOf (out_rowN ((Out.refl w1).alloc _) (owns_void w1 w1.heap.size 6 57 (Nat.le_refl _)) hgrow); have HN : OwS w1.heap.size v' L w2 := (by unfold OwS; rw [Nat.zero_add, List.nil_append] at hown';  exact hown'); obtain ⟨a2, c2, rfl, hl2, hr2⟩ := OwS.at HN; have R2 := hidOf hr2; have HL2 := hidOf hl2; clear hown' hgrow HN hr2 hl2) | (go_at_call 15; refine (CW.out w2 a2 c2 R2.out HL2.out).mono ?_; rintro e w3 ⟨v3, rfl, hown, hO⟩; have W3 := hidOf hown; have O3 := hidOf (O2.out.trans hO); clear hown hO))
    obtain ⟨a3, c3, rfl, hl3, hr3⟩ := OwB.rest W3.out
    have R3 := hidOf hr3
    have HL3 := hidOf hl3
    clear hr3 hl3
    go_upto_region 7 with (first | (go_at_call 16; refine (num_any _ _).mono ?_; rintro e w0' ⟨rfl, hw⟩; subst hw) | (at_builtin; refine wpList_append_own _ rfl (.tmp 37) (.tmp 40) 25 rfl w3.heap.size 57 i0 _ 6 48 Try.underlying25 hi0 hz0 hz1 hz2 rfl (by decide) (.slice (some ⟨w3.heap.size, 0, none⟩) 0 0) 0 [] rfl (owns_void w3 w3.heap.size 6 57 (Nat.le_refl _)) ad ct cap (syV M) rfl (by rw [syV_len, HMl.out]) (HC2.out _ (O3.out.alloc _)) (syV_one _) (by unfold maxLen; omega) (by omega) (by rw [size_alloc]; omega) ?_; intro v' w6 hown' hgrow _; have O6 := hidOf (O3.out.trans (out_rowN ((Out.refl w3).alloc _) (owns_void w3 w3.heap.size 6 57 (Nat.le_refl _)) hgrow)); have P6 := hidOf (out_rowN ((Out.refl w3).alloc _) (owns_void w3 w3.heap.size 6 57 (Nat.le_refl _)) hgrow); have HN : OwS w3.heap.size v' M w6 := (by unfold OwS; rw [Nat.zero_add, List.nil_append] at hown'; rw [HMl.out]; exact hown'); obtain ⟨a6, c6, rfl, hl6, hr6⟩ := OwS.at HN; have R6 := hidOf hr6; have HL6 := hidOf hl6; clear hown' hgrow HN hr6 hl6) | (go_at_call 15; refine (CW2.out w6 a6 c6 R6.out HL6.out).mono ?_; rintro e w7 ⟨v7, rfl, hown, hO⟩; have W7 := hidOf hown; have P7 := hidOf (P6.out.trans hO); have O7 := hidOf (O6.out.trans hO); clear hown hO))
    obtain ⟨a7, c7, rfl, hl7, hr7⟩ := OwB.rest W7.out
    have R3' := hidOf (rest_out R3.out P7.out)
    have k1 : ∀ n, (convert 37 9 (.slice a7 c.length c7)).run Try.prog (w7.drewN n) = .ok (.string ⟨c.toArray⟩) (w7.drewN n) := fun n => conv_rest (w := w7.drewN n) (N := w7.heap.size) hr7 c7
    have k2 : ∀ n, (convert 37 9 (.slice a3 c.length c3)).run Try.prog (w7.drewN n) = .ok (.string ⟨c.toArray⟩) (w7.drewN n) := fun n => by
      have h := conv_rest (w := w7.drewN n) (N := w7.heap.size) (R3'.out.take c.length) c3
      rwa [Hbt.out] at h
    have hcI : (c.length : Int) ≤ c3 := by have := HL3.out; have := HF.out; omega
    clear hl7 hr7
    go_quiet ((go_at_call 16; exact Calls.quiet_of_same ((num_any _ _).mono fun e w' h => ⟨h.1, h.2.symm⟩)))
    clear k1 k2
    go_wp2
    go_ret
    exact ⟨rfl, O7.out.drewN _⟩
set_option maxRecDepth 8000 in
set_option maxHeartbeats 2000000 in
theorem begins_inb (a : Option Addr) (cap : Nat) (L : List Sy) (ct : Nat) (m : Int) (w : World) (hr : SyAt w.heap.size w a L) (hc : L.length ≤ cap) (hll : L.length ≤ 2932031007402) (hk : ∀ s ∈ L, SyOk s) (b : List UInt8) (er : Int) (hT : wrP L = (some b, er)) (hct : ct ≤ L.length) (hA : ¬ m < 1 ∧ 23 < m) : Calls Try.prog 7 #[.slice a L.length cap, .int .i64 (ct : Int), .int .i64 m] w fun e w' => e = .returned (.bool true) ∧ Out w w' := by
  obtain ⟨i0, hi0, hz0, hz1, hz2⟩ := info_parts infoSm
  have CA := hidOf awake10
  obtain ⟨c, hT2, hcl, hbt, hcb, hcut⟩ := beg_P hT hk ct hct
  obtain ⟨rfl, hbl, _⟩ := back_S hT hk
  have CW : Hid (∀ wx a' c', SyAt wx.heap.size wx a' L → L.length ≤ c' → Calls Try.prog 15 #[.slice a' L.length c'] wx fun e w' => ∃ v, e = .returned (.tuple #[v, .int .i64 0]) ∧ OwB wx.heap.size v b w' ∧ Out wx w') := fun wx a' c' h1 h2 => (write_any wx a' c' L h1 h2 hll hk).mono fun e w' h => by
    have hN : wrN L = 0 := by unfold wrN; rw [hT]
    have hB : wrB L = b := by unfold wrB; rw [hT]; rfl
    have := h.flat
    rwa [hN, hB] at this
  obtain ⟨M, hM⟩ : ∃ M, M = L.take ct := ⟨_, rfl⟩
  rw [← hM] at hT2
  have hMl : M.length = ct := by rw [hM, List.length_take]; omega
  have hkM : ∀ s ∈ M, SyOk s := fun s hs => hk s (by rw [hM] at hs; exact List.mem_of_mem_take hs)
  have CW2 : Hid (∀ wx a' c', SyAt wx.heap.size wx a' M → M.length ≤ c' → Calls Try.prog 15 #[.slice a' M.length c'] wx fun e w' => ∃ v, e = .returned (.tuple #[v, .int .i64 0]) ∧ OwB wx.heap.size v c w' ∧ Out wx w') := fun wx a' c' h1 h2 => (write_any wx a' c' M h1 h2 (by omega) hkM).mono fun e w' h => by
    have hN : wrN M = 0 := by unfold wrN; rw [hT2]
    have hB : wrB M = c := by unfold wrB; rw [hT2]; rfl
    have := h.flat
    rwa [hN, hB] at this
  have hx0 : ¬ (ct : Int) < 0 := by omega
  have hxl : ¬ (L.length : Int) < ct := by omega
  have HMl := hidOf hMl
  have HF := hidOf (And.intro hbl (And.intro hcl hcb))
  have Hbt := hidOf hbt
  obtain ⟨hA1, hA2⟩ := hA
  cases a with
  | none =>
    obtain rfl : L = [] := by
      rcases hr with h | ⟨b, off, _, h, _⟩
      · exact h
      · cases h
    obtain rfl : ct = 0 := by simpa using hct
    obtain rfl : M = [] := by rw [hM]; simp
    simp only [List.length_nil] at *
    clear hr hM hMl hbl hcl hcb hT hT2 hk hkM hbt hcut
    go_enter Try.func7, Try.ntmps7
    go_upto_region 4 with (first | (go_at_call 8; refine (CA.out _).mono ?_; rintro e w1 ⟨rfl, hO⟩; have O1 := hidOf hO; clear hO) | (go_at_call 15; refine (CW.out (w1.alloc (.cells #[] 57)) _ 0 (.inl rfl) (by simp)).mono ?_; rintro e w3 ⟨v3, rfl, hown, hO⟩; have W3 := hidOf hown; have O3 := hidOf ((O1.out.alloc _).trans hO); clear hown hO))
    obtain ⟨a3, c3, rfl, hl3, hr3⟩ := OwB.rest W3.out
    have R3 := hidOf hr3
    have HL3 := hidOf hl3
    clear hr3 hl3
    go_upto_region 7 with (first | (go_at_call 16; refine (num_any _ _).mono ?_; rintro e w0' ⟨rfl, hw⟩; subst hw) | (go_at_call 15; refine (CW2.out (w3.alloc (.cells #[] 57)) _ 0 (.inl rfl) (by simp)).mono ?_; rintro e w7 ⟨v7, rfl, hown, hO⟩; have W7 := hidOf hown; have P7 := hidOf (((Out.refl w3).alloc _).trans hO); have O7 := hidOf ((O3.out.alloc _).trans hO); clear hown hO))
    obtain ⟨a7, c7, rfl, hl7, hr7⟩ := OwB.rest W7.out
    have R3' := hidOf (rest_out R3.out P7.out)
    have k1 : ∀ n, (convert 37 9 (.slice a7 c.length c7)).run Try.prog (w7.drewN n) = .ok (.string ⟨c.toArray⟩) (w7.drewN n) := fun n => conv_rest (w := w7.drewN n) (N := w7.heap.size) hr7 c7
    have k2 : ∀ n, (convert 37 9 (.slice a3 c.length c3)).run Try.prog (w7.drewN n) = .ok (.string ⟨c.toArray⟩) (w7.drewN n) := fun n => by
      have h := conv_rest (w := w7.drewN n) (N := w7.heap.size) (R3'.out.take c.length) c3
      rwa [Hbt.out] at h
    have hcI : (c.length : Int) ≤ c3 := by have := HL3.out; have := HF.out; omega
    clear hl7 hr7
    go_quiet ((go_at_call 16; exact Calls.quiet_of_same ((num_any _ _).mono fun e w' h => ⟨h.1, h.2.symm⟩)))
    clear k1 k2
    go_wp2
    go_ret
    exact ⟨rfl, O7.out.drewN _⟩
  | some ad =>
    have HC : Hid (∀ wx, Out w wx → ∀ j u, (syV L)[j]? = some u → wx.cell? (ad.add j) = some u) := fun wx o => (hr.out o).news
    have HC2 : Hid (∀ wx, Out w wx → ∀ j u, (syV M)[j]? = some u → wx.cell? (ad.add j) = some u) := fun wx o => by rw [hM]; exact ((hr.out o).take ct).news
    have hctc : (ct : Int) ≤ cap := by omega
    have hct0 : (0 : Int) ≤ ct := by omega
    clear hr hM hMl hbl hcl hcb hT hT2 hk hkM hbt hcut
    go_enter Try.func7, Try.ntmps7
    go_upto_region 4 with (first | (go_at_call 8; refine (CA.out _).mono ?_; rintro e w1 ⟨rfl, hO⟩; have O1 := hidOf hO; clear hO) | (at_builtin; refine wpList_append_own _ rfl (.tmp 17) (.tmp 18) 25 rfl w1.heap.size 57 i0 _ 6 48 Try.underlying25 hi0 hz0 hz1 hz2 rfl (by decide) (.slice (some ⟨w1.heap.size, 0, none⟩) 0 0) 0 [] rfl (owns_void w1 w1.heap.size 6 57 (Nat.le_refl _)) ad L.length cap (syV L) rfl (syV_len L) (HC.out _ (O1.out.alloc _)) (syV_one _) (by unfold maxLen; omega) (by omega) (by rw [size_alloc]; omega) ?_; intro v' w2 hown' hgrow _; have O2 := hidOf (O1.out.trans (out_rowN ((Out.refl w1).alloc _) (owns_void w1 w1.heap.size 6 57 (Nat.le_refl _)) hgrow)); have P2 := hidOf (out_rowN ((Out.refl w1).alloc _) (owns_void w1 w1.heap.size 6 57 (Nat.le_refl _)) hgrow); have HN : OwS w1.heap.size v' L w2 := (by unfold OwS; rw [Nat.zero_add, List.nil_append] at hown';  exact hown'); obtain ⟨a2, c2, rfl, hl2, hr2⟩ := OwS.at HN; have R2 := hidOf hr2; have HL2 := hidOf hl2; clear hown' hgrow HN hr2 hl2) | (go_at_call 15; refine (CW.out w2 a2 c2 R2.out HL2.out).mono ?_; rintro e w3 ⟨v3, rfl, hown, hO⟩; have W3 := hidOf hown; have O3 := hidOf (O2.out.trans hO); clear hown hO))
    obtain ⟨a3, c3, rfl, hl3, hr3⟩ := OwB.rest W3.out
    have R3 := hidOf hr3
    have HL3 := hidOf hl3
    clear hr3 hl3
    go_upto_region 7 with (first | (go_at_call 16; refine (num_any _ _).mono ?_; rintro e w0' ⟨rfl, hw⟩; subst hw) | (at_builtin; refine wpList_append_own _ rfl (.tmp 37) (.tmp 40) 25 rfl w3.heap.size 57 i0 _ 6 48 Try.underlying25 hi0 hz0 hz1 hz2 rfl (by decide) (.slice (some ⟨w3.heap.size, 0, none⟩) 0 0) 0 [] rfl (owns_void w3 w3.heap.size 6 57 (Nat.le_refl _)) ad ct cap (syV M) rfl (by rw [syV_len, HMl.out]) (HC2.out _ (O3.out.alloc _)) (syV_one _) (by unfold maxLen; omega) (by omega) (by rw [size_alloc]; omega) ?_; intro v' w6 hown' hgrow _; have O6 := hidOf (O3.out.trans (out_rowN ((Out.refl w3).alloc _) (owns_void w3 w3.heap.size 6 57 (Nat.le_refl _)) hgrow)); have P6 := hidOf (out_rowN ((Out.refl w3).alloc _) (owns_void w3 w3.heap.size 6 57 (Nat.le_refl _)) hgrow); have HN : OwS w3.heap.size v' M w6 := (by unfold OwS; rw [Nat.zero_add, List.nil_append] at hown'; rw [HMl.out]; exact hown'); obtain ⟨a6, c6, rfl, hl6, hr6⟩ := OwS.at HN; have R6 := hidOf hr6; have HL6 := hidOf hl6; clear hown' hgrow HN hr6 hl6) | (go_at_call 15; refine (CW2.out w6 a6 c6 R6.out HL6.out).mono ?_; rintro e w7 ⟨v7, rfl, hown, hO⟩; have W7 := hidOf hown; have P7 := hidOf (P6.out.trans hO); have O7 := hidOf (O6.out.trans hO); clear hown hO))
    obtain ⟨a7, c7, rfl, hl7, hr7⟩ := OwB.rest W7.out
    have R3' := hidOf (rest_out R3.out P7.out)
    have k1 : ∀ n, (convert 37 9 (.slice a7 c.length c7)).run Try.prog (w7.drewN n) = .ok (.string ⟨c.toArray⟩) (w7.drewN n) := fun n => conv_rest (w := w7.drewN n) (N := w7.heap.size) hr7 c7
    have k2 : ∀ n, (convert 37 9 (.slice a3 c.length c3)).run Try.prog (w7.drewN n) = .ok (.string ⟨c.toArray⟩) (w7.drewN n) := fun n => by
      have h := conv_rest (w := w7.drewN n) (N := w7.heap.size) (R3'.out.take c.length) c3
      rwa [Hbt.out] at h
    have hcI : (c.length : Int) ≤ c3 := by have := HL3.out; have := HF.out; omega
    clear hl7 hr7
    go_quiet ((go_at_call 16; exact Calls.quiet_of_same ((num_any _ _).mono fun e w' h => ⟨h.1, h.2.symm⟩)))
    clear k1 k2
    go_wp2
    go_ret
    exact ⟨rfl, O7.out.drewN _⟩
set_option maxRecDepth 8000 in
set_option maxHeartbeats 2000000 in
theorem begins_inc (a : Option Addr) (cap : Nat) (L : List Sy) (ct : Nat) (m : Int) (w : World) (hr : SyAt w.heap.size w a L) (hc : L.length ≤ cap) (hll : L.length ≤ 2932031007402) (hk : ∀ s ∈ L, SyOk s) (b : List UInt8) (er : Int) (hT : wrP L = (some b, er)) (hct : ct ≤ L.length) (hA : (¬ m < 1 ∧ ¬ 23 < m) ∧ ct = L.length) : Calls Try.prog 7 #[.slice a L.length cap, .int .i64 (ct : Int), .int .i64 m] w fun e w' => e = .returned (.bool true) ∧ Out w w' := by
  obtain ⟨i0, hi0, hz0, hz1, hz2⟩ := info_parts infoSm
  have CA := hidOf awake10
  obtain ⟨c, hT2, hcl, hbt, hcb, hcut⟩ := beg_P hT hk ct hct
  obtain ⟨rfl, hbl, _⟩ := back_S hT hk
  have CW : Hid (∀ wx a' c', SyAt wx.heap.size wx a' L → L.length ≤ c' → Calls Try.prog 15 #[.slice a' L.length c'] wx fun e w' => ∃ v, e = .returned (.tuple #[v, .int .i64 0]) ∧ OwB wx.heap.size v b w' ∧ Out wx w') := fun wx a' c' h1 h2 => (write_any wx a' c' L h1 h2 hll hk).mono fun e w' h => by
    have hN : wrN L = 0 := by unfold wrN; rw [hT]
    have hB : wrB L = b := by unfold wrB; rw [hT]; rfl
    have := h.flat
    rwa [hN, hB] at this
  obtain ⟨M, hM⟩ : ∃ M, M = L.take ct := ⟨_, rfl⟩
  rw [← hM] at hT2
  have hMl : M.length = ct := by rw [hM, List.length_take]; omega
  have hkM : ∀ s ∈ M, SyOk s := fun s hs => hk s (by rw [hM] at hs; exact List.mem_of_mem_take hs)
  have CW2 : Hid (∀ wx a' c', SyAt wx.heap.size wx a' M → M.length ≤ c' → Calls Try.prog 15 #[.slice a' M.length c'] wx fun e w' => ∃ v, e = .returned (.tuple #[v, .int .i64 0]) ∧ OwB wx.heap.size v c w' ∧ Out wx w') := fun wx a' c' h1 h2 => (write_any wx a' c' M h1 h2 (by omega) hkM).mono fun e w' h => by
    have hN : wrN M = 0 := by unfold wrN; rw [hT2]
    have hB : wrB M = c := by unfold wrB; rw [hT2]; rfl
    have := h.flat
    rwa [hN, hB] at this
  have hx0 : ¬ (ct : Int) < 0 := by omega
  have hxl : ¬ (L.length : Int) < ct := by omega
  have HMl := hidOf hMl
  have HF := hidOf (And.intro hbl (And.intro hcl hcb))
  have Hbt := hidOf hbt
  obtain ⟨⟨hA1, hA2⟩, hA3⟩ := hA
  have hEq : ((ct : Int) == L.length) = true := by simp [hA3]
  clear hA3
  cases a with
  | none =>
    obtain rfl : L = [] := by
      rcases hr with h | ⟨b, off, _, h, _⟩
      · exact h
      · cases h
    obtain rfl : ct = 0 := by simpa using hct
    obtain rfl : M = [] := by rw [hM]; simp
    simp only [List.length_nil] at *
    clear hr hM hMl hbl hcl hcb hT hT2 hk hkM hbt hcut
    go_enter Try.func7, Try.ntmps7
    go_upto_region 4 with (first | (go_at_call 8; refine (CA.out _).mono ?_; rintro e w1 ⟨rfl, hO⟩; have O1 := hidOf hO; clear hO) | (go_at_call 15; refine (CW.out (w1.alloc (.cells #[] 57)) _ 0 (.inl rfl) (by simp)).mono ?_; rintro e w3 ⟨v3, rfl, hown, hO⟩; have W3 := hidOf hown; have O3 := hidOf ((O1.out.alloc _).trans hO); clear hown hO))
    obtain ⟨a3, c3, rfl, hl3, hr3⟩ := OwB.rest W3.out
    have R3 := hidOf hr3
    have HL3 := hidOf hl3
    clear hr3 hl3
    go_upto_region 7 with (first | (go_at_call 16; refine (num_any _ _).mono ?_; rintro e w0' ⟨rfl, hw⟩; subst hw) | (go_at_call 15; refine (CW2.out (w3.alloc (.cells #[] 57)) _ 0 (.inl rfl) (by simp)).mono ?_; rintro e w7 ⟨v7, rfl, hown, hO⟩; have W7 := hidOf hown; have P7 := hidOf (((Out.refl w3).alloc _).trans hO); have O7 := hidOf ((O3.out.alloc _).trans hO); clear hown hO))
    obtain ⟨a7, c7, rfl, hl7, hr7⟩ := OwB.rest W7.out
    have R3' := hidOf (rest_out R3.out P7.out)
    have k1 : ∀ n, (convert 37 9 (.slice a7 c.length c7)).run Try.prog (w7.drewN n) = .ok (.string ⟨c.toArray⟩) (w7.drewN n) := fun n => conv_rest (w := w7.drewN n) (N := w7.heap.size) hr7 c7
    have k2 : ∀ n, (convert 37 9 (.slice a3 c.length c3)).run Try.prog (w7.drewN n) = .ok (.string ⟨c.toArray⟩) (w7.drewN n) := fun n => by
      have h := conv_rest (w := w7.drewN n) (N := w7.heap.size) (R3'.out.take c.length) c3
      rwa [Hbt.out] at h
    have hcI : (c.length : Int) ≤ c3 := by have := HL3.out; have := HF.out; omega
    clear hl7 hr7
    go_quiet ((go_at_call 16; exact Calls.quiet_of_same ((num_any _ _).mono fun e w' h => ⟨h.1, h.2.symm⟩)))
    clear k1 k2
    go_wp2
    go_ret
    exact ⟨rfl, O7.out.drewN _⟩
  | some ad =>
    have HC : Hid (∀ wx, Out w wx → ∀ j u, (syV L)[j]? = some u → wx.cell? (ad.add j) = some u) := fun wx o => (hr.out o).news
    have HC2 : Hid (∀ wx, Out w wx → ∀ j u, (syV M)[j]? = some u → wx.cell? (ad.add j) = some u) := fun wx o => by rw [hM]; exact ((hr.out o).take ct).news
    have hctc : (ct : Int) ≤ cap := by omega
    have hct0 : (0 : Int) ≤ ct := by omega
    clear hr hM hMl hbl hcl hcb hT hT2 hk hkM hbt hcut
    go_enter Try.func7, Try.ntmps7
    go_upto_region 4 with (first | (go_at_call 8; refine (CA.out _).mono ?_; rintro e w1 ⟨rfl, hO⟩; have O1 := hidOf hO; clear hO) | (at_builtin; refine wpList_append_own _ rfl (.tmp 17) (.tmp 18) 25 rfl w1.heap.size 57 i0 _ 6 48 Try.underlying25 hi0 hz0 hz1 hz2 rfl (by decide) (.slice (some ⟨w1.heap.size, 0, none⟩) 0 0) 0 [] rfl (owns_void w1 w1.heap.size 6 57 (Nat.le_refl _)) ad L.length cap (syV L) rfl (syV_len L) (HC.out _ (O1.out.alloc _)) (syV_one _) (by unfold maxLen; omega) (by omega) (by rw [size_alloc]; omega) ?_; intro v' w2 hown' hgrow _; have O2 := hidOf (O1.out.trans (out_rowN ((Out.refl w1).alloc _) (owns_void w1 w1.heap.size 6 57 (Nat.le_refl _)) hgrow)); have P2 := hidOf (out_rowN ((Out.refl w1).alloc _) (owns_void w1 w1.heap.size 6 57 (Nat.le_refl _)) hgrow); have HN : OwS w1.heap.size v' L w2 := (by unfold OwS; rw [Nat.zero_add, List.nil_append] at hown';  exact hown'); obtain ⟨a2, c2, rfl, hl2, hr2⟩ := OwS.at HN; have R2 := hidOf hr2; have HL2 := hidOf hl2; clear hown' hgrow HN hr2 hl2) | (go_at_call 15; refine (CW.out w2 a2 c2 R2.out HL2.out).mono ?_; rintro e w3 ⟨v3, rfl, hown, hO⟩; have W3 := hidOf hown; have O3 := hidOf (O2.out.trans hO); clear hown hO))
    obtain ⟨a3, c3, rfl, hl3, hr3⟩ := OwB.rest W3.out
    have R3 := hidOf hr3
    have HL3 := hidOf hl3
    clear hr3 hl3
    go_upto_region 7 with (first | (go_at_call 16; refine (num_any _ _).mono ?_; rintro e w0' ⟨rfl, hw⟩; subst hw) | (at_builtin; refine wpList_append_own _ rfl (.tmp 37) (.tmp 40) 25 rfl w3.heap.size 57 i0 _ 6 48 Try.underlying25 hi0 hz0 hz1 hz2 rfl (by decide) (.slice (some ⟨w3.heap.size, 0, none⟩) 0 0) 0 [] rfl (owns_void w3 w3.heap.size 6 57 (Nat.le_refl _)) ad ct cap (syV M) rfl (by rw [syV_len, HMl.out]) (HC2.out _ (O3.out.alloc _)) (syV_one _) (by unfold maxLen; omega) (by omega) (by rw [size_alloc]; omega) ?_; intro v' w6 hown' hgrow _; have O6 := hidOf (O3.out.trans (out_rowN ((Out.refl w3).alloc _) (owns_void w3 w3.heap.size 6 57 (Nat.le_refl _)) hgrow)); have P6 := hidOf (out_rowN ((Out.refl w3).alloc _) (owns_void w3 w3.heap.size 6 57 (Nat.le_refl _)) hgrow); have HN : OwS w3.heap.size v' M w6 := (by unfold OwS; rw [Nat.zero_add, List.nil_append] at hown'; rw [HMl.out]; exact hown'); obtain ⟨a6, c6, rfl, hl6, hr6⟩ := OwS.at HN; have R6 := hidOf hr6; have HL6 := hidOf hl6; clear hown' hgrow HN hr6 hl6) | (go_at_call 15; refine (CW2.out w6 a6 c6 R6.out HL6.out).mono ?_; rintro e w7 ⟨v7, rfl, hown, hO⟩; have W7 := hidOf hown; have P7 := hidOf (P6.out.trans hO); have O7 := hidOf (O6.out.trans hO); clear hown hO))
    obtain ⟨a7, c7, rfl, hl7, hr7⟩ := OwB.rest W7.out
    have R3' := hidOf (rest_out R3.out P7.out)
    have k1 : ∀ n, (convert 37 9 (.slice a7 c.length c7)).run Try.prog (w7.drewN n) = .ok (.string ⟨c.toArray⟩) (w7.drewN n) := fun n => conv_rest (w := w7.drewN n) (N := w7.heap.size) hr7 c7
    have k2 : ∀ n, (convert 37 9 (.slice a3 c.length c3)).run Try.prog (w7.drewN n) = .ok (.string ⟨c.toArray⟩) (w7.drewN n) := fun n => by
      have h := conv_rest (w := w7.drewN n) (N := w7.heap.size) (R3'.out.take c.length) c3
      rwa [Hbt.out] at h
    have hcI : (c.length : Int) ≤ c3 := by have := HL3.out; have := HF.out; omega
    clear hl7 hr7
    go_quiet ((go_at_call 16; exact Calls.quiet_of_same ((num_any _ _).mono fun e w' h => ⟨h.1, h.2.symm⟩)))
    clear k1 k2
    go_wp2
    go_ret
    exact ⟨rfl, O7.out.drewN _⟩
end Go.Proofs.Ytpkbchhjcgiiaaa
