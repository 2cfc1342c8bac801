import Derived.Test.YtbdmbicnlfcclaaSyt
namespace Go.Proofs.Ytbdmbicnlfcclaa
open Go.RowKit
set_option linter.unusedVariables false
set_option linter.unusedSimpArgs false
theorem OwS.at {B : Nat} {v : Value} {L : List Sy} {w : World} (h : OwS B v L w) : ∃ a cp, v = .slice a L.length cp ∧ L.length ≤ cp ∧ SyAt w.heap.size w a L := by
  obtain ⟨hx, h⟩ := h
  rcases h with ⟨rfl, h0⟩ | ⟨g, cap, cs, rfl, hB, hg, hl, hm, hs, ht⟩
  · have : L = [] := List.eq_nil_of_length_eq_zero h0
    subst this
    exact ⟨none, 0, rfl, Nat.le_refl _, .inl rfl⟩
  · refine ⟨_, cap, rfl, hl, .inr ⟨g, 0, (Array.getElem?_eq_some_iff.1 hg).1, rfl, fun k u hu => ?_⟩⟩
    rw [Nat.zero_add, box_cell hg, ← Array.getElem?_toList]
    rw [← ht, List.getElem?_take] at hu
    split at hu
    · exact hu
    · cases hu
theorem SyAt.news {B : Nat} {w : World} {ad : Addr} {L : List Sy} (h : SyAt B w (some ad) L) : ∀ j u, (syV L)[j]? = some u → w.cell? (ad.add j) = some u := fun j u hu => by
  rcases h with rfl | ⟨b, off, _, h, hc⟩
  · simp [syV] at hu
  · cases h
    have e : (⟨b, off, none⟩ : Addr).add j = ⟨b, off + j, none⟩ := by unfold Addr.add; split <;> simp_all
    rw [e]
    exact hc j u hu
/-- what Write tells, as bytes and an error -/
def wrB (l : List Sy) : List UInt8 := (wrP l).1.getD []
def wrN (l : List Sy) : Int := match wrP l with
  | (none, e) => e
  | (some _, _) => 0
theorem WrE.flat {w w' : World} {l : List Sy} {e : Ending} (h : WrE w (wrP l) e w') : ∃ v, e = .returned (.tuple #[v, .int .i64 (wrN l)]) ∧ OwB w.heap.size v (wrB l) w' ∧ Out w w' := by
  unfold wrN wrB
  cases hT : wrP l with
  | mk o er =>
    rw [hT] at h
    cases o with
    | none => exact ⟨_, h.2, ⟨rfl, .inl ⟨rfl, rfl⟩⟩, h.1⟩
    | some b =>
      obtain ⟨ho, a, c, he, hw⟩ := h
      exact ⟨_, he, hw, ho⟩
theorem RestAt.at {N : Nat} {w : World} {a : Option Addr} {l : List UInt8} (h : RestAt N w a l) (hl : 0 < l.length) : ∃ g off, a = some ⟨g, off, none⟩ ∧ g < N ∧ BAt w g off l := by
  rcases h with rfl | ⟨b, off, hb, ha, hc⟩
  · simp at hl
  · exact ⟨b, off, ha, hb, hc⟩
theorem rest_out {w w' : World} {a : Option Addr} {l : List UInt8} (h : RestAt w.heap.size w a l) (o : Out w w') : RestAt w'.heap.size w' a l := by
  rcases h with h | ⟨b, off, hb, ha, hc⟩
  · exact .inl h
  · exact .inr ⟨b, off, Nat.lt_of_lt_of_le hb o.size, ha, fun k x hx => cell_later o (hc k x hx)⟩
set_option maxRecDepth 8000 in
set_option maxHeartbeats 1000000 in
theorem symtabBack_no (a : Option Addr) (cap : Nat) (L : List Sy) (w : World) (hr : SyAt w.heap.size w a L) (hc : L.length ≤ cap) (hll : L.length ≤ 2932031007402) (hk : ∀ s ∈ L, SyOk s) (er : Int) (hT : wrP L = (none, er)) : Calls Try.prog 5 #[.slice a L.length cap] w fun e w' => e = .returned (.bool true) ∧ Out w w' := by
  obtain ⟨i0, hi0, hz0, hz1, hz2⟩ := info_parts infoSm
  have CA := hidOf awake10
  have HR := hidOf hr
  have CW : Hid (∀ wx a' c', SyAt wx.heap.size wx a' L → L.length ≤ c' → Calls Try.prog 15 #[.slice a' L.length c'] wx fun e w' => ∃ v, e = .returned (.tuple #[v, .int .i64 (wrN L)]) ∧ OwB wx.heap.size v (wrB L) w' ∧ Out wx w') := fun wx a' c' h1 h2 => (write_any wx a' c' L h1 h2 hll hk).mono fun e w' h => h.flat
  have hN : wrN L = er := by unfold wrN; rw [hT]
  have hB : wrB L = [] := by unfold wrB; rw [hT]; rfl
  have her := wrF_er L ⟨0, 0, 0⟩ _ er hT
  rw [hN, hB] at CW
  clear hT hN hB hk
  rcases her with rfl | rfl
  all_goals
    cases a with
    | none =>
      obtain rfl : L = [] := by
        rcases hr with h | ⟨b, off, _, h, _⟩
        · exact h
        · cases h
      simp only [List.length_nil] at *
      clear hr
      go_enter Try.func5, Try.ntmps5
      go_upto_region 4 with (first | (go_at_call 8; refine (CA.out _).mono ?_; rintro e w1 ⟨rfl, hO⟩; have O1 := hidOf hO; clear hO) | (go_at_call 15; refine (CW.out (w1.alloc (.cells #[] 57)) _ 0 (.inl rfl) (by simp)).mono ?_; rintro e w3 ⟨v3, rfl, hown, hO⟩; have W3 := hidOf hown; have O3 := hidOf ((O1.out.alloc _).trans hO); clear hown hO))
      obtain ⟨a3, c3, rfl⟩ := own_form W3.out
      go_wp2_with (first | (go_at_call 16; refine (num_any _ _).mono ?_; rintro e w5 ⟨rfl, hw⟩; have hw := hw.symm; subst hw))
      go_ret
      exact ⟨rfl, O3.out⟩
    | some ad =>
      have HC : Hid (∀ wx, Out w wx → ∀ j u, (syV L)[j]? = some u → wx.cell? (ad.add j) = some u) := fun wx o => (hr.out o).news
      clear hr
      go_enter Try.func5, Try.ntmps5
      go_upto_region 4 with (first | (go_at_call 8; refine (CA.out _).mono ?_; rintro e w1 ⟨rfl, hO⟩; have O1 := hidOf hO; clear hO) | (at_builtin; refine wpList_append_own _ rfl (.tmp 11) (.tmp 12) 25 rfl w1.heap.size 57 i0 _ 6 48 Try.underlying25 hi0 hz0 hz1 hz2 rfl (by decide) (.slice (some ⟨w1.heap.size, 0, none⟩) 0 0) 0 [] rfl (owns_void w1 w1.heap.size 6 57 (Nat.le_refl _)) ad L.length cap (syV L) rfl (syV_len L) (HC.out _ (O1.out.alloc _)) (syV_one L) (by unfold maxLen; omega) (by omega) (by rw [size_alloc]; omega) ?_; intro v' w2 hown' hgrow _; have O2 := hidOf (O1.out.trans (out_rowN ((Out.refl w1).alloc _) (owns_void w1 w1.heap.size 6 57 (Nat.le_refl _)) hgrow)); have HN : OwS w1.heap.size v' L w2 := (by unfold OwS; rw [Nat.zero_add, List.nil_append] at hown'; exact hown'); obtain ⟨a2, c2, rfl, hl2, hr2⟩ := OwS.at HN; have R2 := hidOf hr2; have HL2 := hidOf hl2; clear hown' hgrow HN hr2 hl2) | (go_at_call 15; refine (CW.out w2 a2 c2 R2.out HL2.out).mono ?_; rintro e w3 ⟨v3, rfl, hown, hO⟩; have W3 := hidOf hown; have O3 := hidOf (O2.out.trans hO); clear hown hO))
      obtain ⟨a3, c3, rfl⟩ := own_form W3.out
      go_wp2_with (first | (go_at_call 16; refine (num_any _ _).mono ?_; rintro e w5 ⟨rfl, hw⟩; have hw := hw.symm; subst hw))
      go_ret
      exact ⟨rfl, O3.out⟩
set_option maxRecDepth 8000 in
set_option maxHeartbeats 1000000 in
theorem symtabBack_yes (a : Option Addr) (cap : Nat) (L : List Sy) (w : World) (hr : SyAt w.heap.size w a L) (hc : L.length ≤ cap) (hll : L.length ≤ 2932031007402) (hk : ∀ s ∈ L, SyOk s) (b : List UInt8) (er : Int) (hT : wrP L = (some b, er)) : Calls Try.prog 5 #[.slice a L.length cap] w fun e w' => e = .returned (.bool true) ∧ Out w w' := by
  obtain ⟨i0, hi0, hz0, hz1, hz2⟩ := info_parts infoSm
  have CA := hidOf awake10
  have HR := hidOf hr
  have CW : Hid (∀ wx a' c', SyAt wx.heap.size wx a' L → L.length ≤ c' → Calls Try.prog 15 #[.slice a' L.length c'] wx fun e w' => ∃ v, e = .returned (.tuple #[v, .int .i64 (wrN L)]) ∧ OwB wx.heap.size v (wrB L) w' ∧ Out wx w') := fun wx a' c' h1 h2 => (write_any wx a' c' L h1 h2 hll hk).mono fun e w' h => h.flat
  obtain ⟨rfl, hbl, hrd⟩ := back_S hT hk
  have hN : wrN L = 0 := by unfold wrN; rw [hT]
  have hB : wrB L = b := by unfold wrB; rw [hT]; rfl
  rw [hN, hB] at CW
  have hbI : (24 : Int) * L.length + 24 = b.length := by omega
  have hLI : (L.length : Int) ≤ 2932031007402 := by omega
  have CR : Hid (∀ wx g off c, g < wx.heap.size → BAt wx g off b → b.length ≤ c → Calls Try.prog 17 #[.slice (some ⟨g, off, none⟩) b.length c] wx fun e w' => ∃ a2 c2, e = .returned (.tuple #[.slice a2 L.length c2, .int .i64 0, .int .i64 0]) ∧ SyAt w'.heap.size w' a2 L ∧ Out wx w') := fun wx g off c h1 h2 h3 => (read_any wx g off c b h1 h2 h3 (by omega)).mono fun e w' hh => by
    rw [hrd] at hh
    obtain ⟨ho, a2, c2, he, hown⟩ := hh
    obtain ⟨a3, c3, hv, _, hr⟩ := OwS.at hown
    injection hv with q1 q2 q3
    subst q1
    exact ⟨_, _, he, hr, ho⟩
  have CS : Hid (∀ wx a' a2 c' c2, SyAt wx.heap.size wx a' L → SyAt wx.heap.size wx a2 L → Calls Try.prog 18 #[.slice a' L.length c', .slice a2 L.length c2] wx fun e w' => e = .returned (.bool true) ∧ Out wx w') := fun wx a' a2 c' c2 h1 h2 => (sameSymbols_any wx a' a2 c' c2 L L h1 h2 (by omega)).mono fun e w' ⟨he, ho⟩ => ⟨by rw [he]; simp, ho⟩
  have HBL := hidOf hbl
  clear hT hN hB hk hrd hbl
  cases a with
  | none =>
    obtain rfl : L = [] := by
      rcases hr with h | ⟨b, off, _, h, _⟩
      · exact h
      · cases h
    simp only [List.length_nil] at *
    clear hr
    go_enter Try.func5, Try.ntmps5
    go_upto_region 4 with (first | (go_at_call 8; refine (CA.out _).mono ?_; rintro e w1 ⟨rfl, hO⟩; have O1 := hidOf hO; clear hO) | (go_at_call 15; refine (CW.out (w1.alloc (.cells #[] 57)) _ 0 (.inl rfl) (by simp)).mono ?_; rintro e w3 ⟨v3, rfl, hown, hO⟩; have W3 := hidOf hown; have O3 := hidOf ((O1.out.alloc _).trans hO); clear hown hO))
    obtain ⟨a3, c3, rfl, hl3, hr3⟩ := OwB.rest W3.out
    obtain ⟨g3, off3, rfl, hg3, hB3⟩ := hr3.at (by have := HBL.out; omega)
    have CR3 := hidOf (CR.out w3 g3 off3 c3 hg3 hB3 hl3)
    clear hl3 hr3 hg3 hB3
    go_wp2_with (first | (go_at_call 16; refine (num_any _ _).mono ?_; rintro e w5 ⟨rfl, hw⟩; have hw := hw.symm; subst hw) | (go_at_call 17; refine CR3.out.mono ?_; rintro e w4 ⟨a4, c4, rfl, hr4, hO⟩; have R4 := hidOf hr4; have O4 := hidOf (O3.out.trans hO); clear hr4 hO) | (go_at_call 18; refine (CS.out _ _ _ _ _ R4.out (HR.out.out O4.out)).mono ?_; rintro e w5 ⟨rfl, hO⟩; have O5 := hidOf (O4.out.trans hO); clear hO))
    go_ret
    exact ⟨rfl, O5.out⟩
  | some ad =>
    have HC : Hid (∀ wx, Out w wx → ∀ j u, (syV L)[j]? = some u → wx.cell? (ad.add j) = some u) := fun wx o => (hr.out o).news
    clear hr
    go_enter Try.func5, Try.ntmps5
    go_upto_region 4 with (first | (go_at_call 8; refine (CA.out _).mono ?_; rintro e w1 ⟨rfl, hO⟩; have O1 := hidOf hO; clear hO) | (at_builtin; refine wpList_append_own _ rfl (.tmp 11) (.tmp 12) 25 rfl w1.heap.size 57 i0 _ 6 48 Try.underlying25 hi0 hz0 hz1 hz2 rfl (by decide) (.slice (some ⟨w1.heap.size, 0, none⟩) 0 0) 0 [] rfl (owns_void w1 w1.heap.size 6 57 (Nat.le_refl _)) ad L.length cap (syV L) rfl (syV_len L) (HC.out _ (O1.out.alloc _)) (syV_one L) (by unfold maxLen; omega) (by omega) (by rw [size_alloc]; omega) ?_; intro v' w2 hown' hgrow _; have O2 := hidOf (O1.out.trans (out_rowN ((Out.refl w1).alloc _) (owns_void w1 w1.heap.size 6 57 (Nat.le_refl _)) hgrow)); have HN : OwS w1.heap.size v' L w2 := (by unfold OwS; rw [Nat.zero_add, List.nil_append] at hown'; exact hown'); obtain ⟨a2, c2, rfl, hl2, hr2⟩ := OwS.at HN; have R2 := hidOf hr2; have HL2 := hidOf hl2; clear hown' hgrow HN hr2 hl2) | (go_at_call 15; refine (CW.out w2 a2 c2 R2.out HL2.out).mono ?_; rintro e w3 ⟨v3, rfl, hown, hO⟩; have W3 := hidOf hown; have O3 := hidOf (O2.out.trans hO); clear hown hO))
    obtain ⟨a3, c3, rfl, hl3, hr3⟩ := OwB.rest W3.out
    obtain ⟨g3, off3, rfl, hg3, hB3⟩ := hr3.at (by have := HBL.out; omega)
    have CR3 := hidOf (CR.out w3 g3 off3 c3 hg3 hB3 hl3)
    clear hl3 hr3 hg3 hB3
    go_wp2_with (first | (go_at_call 16; refine (num_any _ _).mono ?_; rintro e w5 ⟨rfl, hw⟩; have hw := hw.symm; subst hw) | (go_at_call 17; refine CR3.out.mono ?_; rintro e w4 ⟨a4, c4, rfl, hr4, hO⟩; have R4 := hidOf hr4; have O4 := hidOf (O3.out.trans hO); clear hr4 hO) | (go_at_call 18; refine (CS.out _ _ _ _ _ R4.out (HR.out.out O4.out)).mono ?_; rintro e w5 ⟨rfl, hO⟩; have O5 := hidOf (O4.out.trans hO); clear hO))
    go_ret
    exact ⟨rfl, O5.out⟩
theorem symtabBack_walk (a : Option Addr) (cap : Nat) (L : List Sy) (w : World) (hr : SyAt w.heap.size w a L) (hc : L.length ≤ cap) (hll : L.length ≤ 2932031007402) (hk : ∀ s ∈ L, SyOk s) : Calls Try.prog 5 #[.slice a L.length cap] w fun e w' => e = .returned (.bool true) ∧ Out w w' := by
  cases hT : wrP L with
  | mk o er =>
    cases o with
    | none => exact symtabBack_no a cap L w hr hc hll hk er hT
    | some b => exact symtabBack_yes a cap L w hr hc hll hk b er hT
end Go.Proofs.Ytbdmbicnlfcclaa
