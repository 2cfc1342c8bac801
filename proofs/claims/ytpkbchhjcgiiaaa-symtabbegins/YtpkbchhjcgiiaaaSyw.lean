import Derived.Test.YtpkbchhjcgiiaaaSyu
namespace Go.Proofs.Ytpkbchhjcgiiaaa
open Go.RowKit
set_option linter.unusedVariables false
set_option linter.unusedSimpArgs false
set_option maxRecDepth 8000 in
set_option maxHeartbeats 2000000 in
theorem begins_no (a : Option Addr) (cap : Nat) (L : List Sy) (x m : Int) (w : World) (hr : SyAt w.heap.size w a L) (hc : L.length ≤ cap) (hll : L.length ≤ 2932031007402) (hk : ∀ s ∈ L, SyOk s) (er : Int) (hT : wrP L = (none, er)) : Calls Try.prog 7 #[.slice a L.length cap, .int .i64 x, .int .i64 m] w fun e w' => e = .returned (.bool true) ∧ Out w w' := by
  obtain ⟨i0, hi0, hz0, hz1, hz2⟩ := info_parts infoSm
  have CA := hidOf awake10
  have CW : Hid (∀ wx a' c', SyAt wx.heap.size wx a' L → L.length ≤ c' → Calls Try.prog 15 #[.slice a' L.length c'] wx fun e w' => ∃ v, e = .returned (.tuple #[v, .int .i64 (wrN L)]) ∧ OwB wx.heap.size v (wrB L) w' ∧ Out wx w') := fun wx a' c' h1 h2 => (write_any wx a' c' L h1 h2 hll hk).mono fun e w' h => h.flat
  have hN : wrN L = er := by unfold wrN; rw [hT]
  have hB : wrB L = [] := by unfold wrB; rw [hT]; rfl
  have her := wrF_er L ⟨0, 0, 0⟩ _ er hT
  rw [hN, hB] at CW
  have hEn : (er != 0) = true := by rcases her with rfl | rfl <;> rfl
  clear hT hN hB hk her
  cases a with
  | none =>
    obtain rfl : L = [] := by
      rcases hr with h | ⟨b, off, _, h, _⟩
      · exact h
      · cases h
    simp only [List.length_nil] at *
    clear hr
    go_enter Try.func7, Try.ntmps7
    go_upto_region 4 with (first | (go_at_call 8; refine (CA.out _).mono ?_; rintro e w1 ⟨rfl, hO⟩; have O1 := hidOf hO; clear hO) | (go_at_call 15; refine (CW.out (w1.alloc (.cells #[] 57)) _ 0 (.inl rfl) (by simp)).mono ?_; rintro e w3 ⟨v3, rfl, hown, hO⟩; have W3 := hidOf hown; have O3 := hidOf ((O1.out.alloc _).trans hO); clear hown hO))
    obtain ⟨a3, c3, rfl⟩ := own_form W3.out
    go_wp2_with (first | (go_at_call 16; refine (num_any _ _).mono ?_; rintro e w0' ⟨rfl, hw⟩; have hw := hw.symm; subst hw))
    go_ret
    exact ⟨rfl, O3.out⟩
  | some ad =>
    have HC : Hid (∀ wx, Out w wx → ∀ j u, (syV L)[j]? = some u → wx.cell? (ad.add j) = some u) := fun wx o => (hr.out o).news
    clear hr
    go_enter Try.func7, Try.ntmps7
    go_upto_region 4 with (first | (go_at_call 8; refine (CA.out _).mono ?_; rintro e w1 ⟨rfl, hO⟩; have O1 := hidOf hO; clear hO) | (at_builtin; refine wpList_append_own _ rfl (.tmp 17) (.tmp 18) 25 rfl w1.heap.size 57 i0 _ 6 48 Try.underlying25 hi0 hz0 hz1 hz2 rfl (by decide) (.slice (some ⟨w1.heap.size, 0, none⟩) 0 0) 0 [] rfl (owns_void w1 w1.heap.size 6 57 (Nat.le_refl _)) ad L.length cap (syV (L)) rfl (by rw [syV_len]) (HC.out _ (O1.out.alloc _)) (syV_one _) (by unfold maxLen; omega) (by omega) (by rw [size_alloc]; omega) ?_; intro v' w2 hown' hgrow _; have O2 := hidOf (O1.out.trans (out_rowN ((Out.refl w1).alloc _) (owns_void w1 w1.heap.size 6 57 (Nat.le_refl _)) hgrow)); have HN : OwS w1.heap.size v' (L) w2 := (by unfold OwS; rw [Nat.zero_add, List.nil_append] at hown';  exact hown'); obtain ⟨a2, c2, rfl, hl2, hr2⟩ := OwS.at HN; have R2 := hidOf hr2; have HL2 := hidOf hl2; clear hown' hgrow HN hr2 hl2) | (go_at_call 15; refine (CW.out w2 a2 c2 R2.out HL2.out).mono ?_; rintro e w3 ⟨v3, rfl, hown, hO⟩; have W3 := hidOf hown; have O3 := hidOf (O2.out.trans hO); clear hown hO))
    obtain ⟨a3, c3, rfl⟩ := own_form W3.out
    go_wp2_with (first | (go_at_call 16; refine (num_any _ _).mono ?_; rintro e w0' ⟨rfl, hw⟩; have hw := hw.symm; subst hw))
    go_ret
    exact ⟨rfl, O3.out⟩
set_option maxRecDepth 8000 in
set_option maxHeartbeats 2000000 in
theorem begins_out (a : Option Addr) (cap : Nat) (L : List Sy) (x m : Int) (w : World) (hr : SyAt w.heap.size w a L) (hc : L.length ≤ cap) (hll : L.length ≤ 2932031007402) (hk : ∀ s ∈ L, SyOk s) (b : List UInt8) (er : Int) (hT : wrP L = (some b, er)) (hx : x < 0 ∨ (L.length : Int) < x) : Calls Try.prog 7 #[.slice a L.length cap, .int .i64 x, .int .i64 m] w fun e w' => e = .returned (.bool true) ∧ Out w w' := by
  obtain ⟨i0, hi0, hz0, hz1, hz2⟩ := info_parts infoSm
  have CA := hidOf awake10
  have CW : Hid (∀ wx a' c', SyAt wx.heap.size wx a' L → L.length ≤ c' → Calls Try.prog 15 #[.slice a' L.length c'] wx fun e w' => ∃ v, e = .returned (.tuple #[v, .int .i64 (wrN L)]) ∧ OwB wx.heap.size v (wrB L) w' ∧ Out wx w') := fun wx a' c' h1 h2 => (write_any wx a' c' L h1 h2 hll hk).mono fun e w' h => h.flat
  have hN : wrN L = 0 := by unfold wrN; rw [hT]
  rw [hN] at CW
  clear hT hN hk
  by_cases hx0 : x < 0
  · clear hx
    cases a with
    | none =>
      obtain rfl : L = [] := by
        rcases hr with h | ⟨b, off, _, h, _⟩
        · exact h
        · cases h
      simp only [List.length_nil] at *
      clear hr
      go_enter Try.func7, Try.ntmps7
      go_upto_region 4 with (first | (go_at_call 8; refine (CA.out _).mono ?_; rintro e w1 ⟨rfl, hO⟩; have O1 := hidOf hO; clear hO) | (go_at_call 15; refine (CW.out (w1.alloc (.cells #[] 57)) _ 0 (.inl rfl) (by simp)).mono ?_; rintro e w3 ⟨v3, rfl, hown, hO⟩; have W3 := hidOf hown; have O3 := hidOf ((O1.out.alloc _).trans hO); clear hown hO))
      obtain ⟨a3, c3, rfl⟩ := own_form W3.out
      go_wp2_with (first | (go_at_call 16; refine (num_any _ _).mono ?_; rintro e w0' ⟨rfl, hw⟩; have hw := hw.symm; subst hw))
      go_ret
      exact ⟨rfl, O3.out⟩
    | some ad =>
      have HC : Hid (∀ wx, Out w wx → ∀ j u, (syV L)[j]? = some u → wx.cell? (ad.add j) = some u) := fun wx o => (hr.out o).news
      clear hr
      go_enter Try.func7, Try.ntmps7
      go_upto_region 4 with (first | (go_at_call 8; refine (CA.out _).mono ?_; rintro e w1 ⟨rfl, hO⟩; have O1 := hidOf hO; clear hO) | (at_builtin; refine wpList_append_own _ rfl (.tmp 17) (.tmp 18) 25 rfl w1.heap.size 57 i0 _ 6 48 Try.underlying25 hi0 hz0 hz1 hz2 rfl (by decide) (.slice (some ⟨w1.heap.size, 0, none⟩) 0 0) 0 [] rfl (owns_void w1 w1.heap.size 6 57 (Nat.le_refl _)) ad L.length cap (syV (L)) rfl (by rw [syV_len]) (HC.out _ (O1.out.alloc _)) (syV_one _) (by unfold maxLen; omega) (by omega) (by rw [size_alloc]; omega) ?_; intro v' w2 hown' hgrow _; have O2 := hidOf (O1.out.trans (out_rowN ((Out.refl w1).alloc _) (owns_void w1 w1.heap.size 6 57 (Nat.le_refl _)) hgrow)); have HN : OwS w1.heap.size v' (L) w2 := (by unfold OwS; rw [Nat.zero_add, List.nil_append] at hown';  exact hown'); obtain ⟨a2, c2, rfl, hl2, hr2⟩ := OwS.at HN; have R2 := hidOf hr2; have HL2 := hidOf hl2; clear hown' hgrow HN hr2 hl2) | (go_at_call 15; refine (CW.out w2 a2 c2 R2.out HL2.out).mono ?_; rintro e w3 ⟨v3, rfl, hown, hO⟩; have W3 := hidOf hown; have O3 := hidOf (O2.out.trans hO); clear hown hO))
      obtain ⟨a3, c3, rfl⟩ := own_form W3.out
      go_wp2_with (first | (go_at_call 16; refine (num_any _ _).mono ?_; rintro e w0' ⟨rfl, hw⟩; have hw := hw.symm; subst hw))
      go_ret
      exact ⟨rfl, O3.out⟩
  · have hxl : (L.length : Int) < x := by omega
    clear hx
    cases a with
    | none =>
      obtain rfl : L = [] := by
        rcases hr with h | ⟨b, off, _, h, _⟩
        · exact h
        · cases h
      simp only [List.length_nil] at *
      clear hr
      go_enter Try.func7, Try.ntmps7
      go_upto_region 4 with (first | (go_at_call 8; refine (CA.out _).mono ?_; rintro e w1 ⟨rfl, hO⟩; have O1 := hidOf hO; clear hO) | (go_at_call 15; refine (CW.out (w1.alloc (.cells #[] 57)) _ 0 (.inl rfl) (by simp)).mono ?_; rintro e w3 ⟨v3, rfl, hown, hO⟩; have W3 := hidOf hown; have O3 := hidOf ((O1.out.alloc _).trans hO); clear hown hO))
      obtain ⟨a3, c3, rfl⟩ := own_form W3.out
      go_wp2_with (first | (go_at_call 16; refine (num_any _ _).mono ?_; rintro e w0' ⟨rfl, hw⟩; have hw := hw.symm; subst hw))
      go_ret
      exact ⟨rfl, O3.out⟩
    | some ad =>
      have HC : Hid (∀ wx, Out w wx → ∀ j u, (syV L)[j]? = some u → wx.cell? (ad.add j) = some u) := fun wx o => (hr.out o).news
      clear hr
      go_enter Try.func7, Try.ntmps7
      go_upto_region 4 with (first | (go_at_call 8; refine (CA.out _).mono ?_; rintro e w1 ⟨rfl, hO⟩; have O1 := hidOf hO; clear hO) | (at_builtin; refine wpList_append_own _ rfl (.tmp 17) (.tmp 18) 25 rfl w1.heap.size 57 i0 _ 6 48 Try.underlying25 hi0 hz0 hz1 hz2 rfl (by decide) (.slice (some ⟨w1.heap.size, 0, none⟩) 0 0) 0 [] rfl (owns_void w1 w1.heap.size 6 57 (Nat.le_refl _)) ad L.length cap (syV (L)) rfl (by rw [syV_len]) (HC.out _ (O1.out.alloc _)) (syV_one _) (by unfold maxLen; omega) (by omega) (by rw [size_alloc]; omega) ?_; intro v' w2 hown' hgrow _; have O2 := hidOf (O1.out.trans (out_rowN ((Out.refl w1).alloc _) (owns_void w1 w1.heap.size 6 57 (Nat.le_refl _)) hgrow)); have HN : OwS w1.heap.size v' (L) w2 := (by unfold OwS; rw [Nat.zero_add, List.nil_append] at hown';  exact hown'); obtain ⟨a2, c2, rfl, hl2, hr2⟩ := OwS.at HN; have R2 := hidOf hr2; have HL2 := hidOf hl2; clear hown' hgrow HN hr2 hl2) | (go_at_call 15; refine (CW.out w2 a2 c2 R2.out HL2.out).mono ?_; rintro e w3 ⟨v3, rfl, hown, hO⟩; have W3 := hidOf hown; have O3 := hidOf (O2.out.trans hO); clear hown hO))
      obtain ⟨a3, c3, rfl⟩ := own_form W3.out
      go_wp2_with (first | (go_at_call 16; refine (num_any _ _).mono ?_; rintro e w0' ⟨rfl, hw⟩; have hw := hw.symm; subst hw))
      go_ret
      exact ⟨rfl, O3.out⟩
theorem beg_P {L : List Sy} {b : List UInt8} {e : Int} (hT : wrP L = (some b, e)) (hk : ∀ s ∈ L, SyOk s) (ct : Nat) (hct : ct ≤ L.length) : ∃ c, wrP (L.take ct) = (some c, 0) ∧ c.length = 24 + 24 * ct ∧ b.take c.length = c ∧ c.length ≤ b.length ∧ ∀ n, 1 ≤ n → n ≤ 23 → ct < L.length → rdS (b.take (c.length + n)) = (none, ((c.length + n : Nat) : Int), 100) ∧ c.length + n ≤ b.length := by
  obtain ⟨t, h1, h2⟩ := wr_beg L ⟨0, 0, 0⟩ (List.replicate 24 0) b e ct hT
  obtain ⟨_, hbl, _⟩ := back_S hT hk
  have hk2 : ∀ s ∈ L.take ct, SyOk s := fun s hs => hk s (List.mem_of_mem_take hs)
  obtain ⟨_, hcl, _⟩ := back_S (L := L.take ct) h1 hk2
  rw [List.length_take, Nat.min_eq_left hct] at hcl
  obtain ⟨d, hd⟩ := h2
  generalize List.replicate 24 0 ++ t = c at *
  refine ⟨c, h1, hcl, by rw [← hd, List.take_left], by omega, fun n n1 n2 hlt => ?_⟩
  have hdl : c.length + d.length = b.length := by rw [← hd, List.length_append]
  have e1 : b.take (c.length + n) = c ++ d.take n := by
    rw [← hd, List.take_append]
    congr 1
    · exact List.take_of_length_le (by omega)
    · congr 1; omega
  have hul : (d.take n).length = n := by rw [List.length_take]; omega
  have := cut_S (u := d.take n) h1 hk2 (by omega)
  rw [e1, this, List.length_append, hul]
  exact ⟨rfl, by omega⟩
theorem SyAt.take {B : Nat} {w : World} {a : Option Addr} {L : List Sy} (h : SyAt B w a L) (k : Nat) : SyAt B w a (L.take k) := by
  rcases h with rfl | ⟨g, of, hg, ha, hc⟩
  · exact .inl (by simp)
  · refine .inr ⟨g, of, hg, ha, fun j u hu => hc j u ?_⟩
    have e : syV L = syV (L.take k) ++ syV (L.drop k) := by rw [← syV_app, List.take_append_drop]
    rw [e, List.getElem?_append_left (List.getElem?_eq_some_iff.1 hu).1]
    exact hu
theorem RestAt.take {B : Nat} {w : World} {a : Option Addr} {l : List UInt8} (h : RestAt B w a l) (k : Nat) : RestAt B w a (l.take k) := by
  rcases h with rfl | ⟨g, of, hg, ha, hc⟩
  · exact .inl (by simp)
  · refine .inr ⟨g, of, hg, ha, fun j u hu => hc j u ?_⟩
    rw [List.getElem?_take] at hu
    split at hu
    · exact hu
    · cases hu
end Go.Proofs.Ytpkbchhjcgiiaaa
