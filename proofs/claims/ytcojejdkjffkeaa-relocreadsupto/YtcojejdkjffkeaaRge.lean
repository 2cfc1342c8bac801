import Derived.Test.YtcojejdkjffkeaaRgd
namespace Go.Proofs.Ytcojejdkjffkeaa
open Go.RowKit
set_option linter.unusedVariables false
set_option linter.unusedSimpArgs false
set_option maxRecDepth 20000 in
set_option maxHeartbeats 400000 in
theorem relocReads_walk (a : Option Addr) (cap : Nat) (l : List UInt8) (w : World) (hr : RestAt w.heap.size w a l) (hll : l.length ≤ 60000000000000) :
    Calls Try.prog 4 #[.slice a l.length cap] w fun e w' => e = .returned (.bool true) ∧ Out w w' := by
  have CA : Hid (∀ wx, Out w wx → Calls Try.prog 9 #[] wx fun e w' => e = .returned (.bool true) ∧ Out wx w') := fun wx _ => awake11 wx
  obtain ⟨B, hB⟩ : ∃ B, B = w.heap.size := ⟨_, rfl⟩
  have S1 : Hid (LS (w.alloc (.cells #[.slice none 0 0, .int .i64 0] 33)) B B l.length) := .inl (by rw [hB]; exact heap_alloc_new w _)
  have CT : Hid (Calls Try.prog 11 #[.slice a l.length cap] (w.alloc (.cells #[.slice none 0 0, .int .i64 0] 33)) fun e w' => ∃ v, e = .returned v ∧ ∃ O, O.length = l.length ∧ OwB (w.alloc (.cells #[.slice none 0 0, .int .i64 0] 33)).heap.size v O w' ∧ Out (w.alloc (.cells #[.slice none 0 0, .int .i64 0] 33)) w') := turned_any _ a cap l (by
    rcases hr with h | ⟨b, o, hb, h, hc⟩
    · exact .inl h
    · exact .inr ⟨b, o, by rw [size_alloc]; omega, h, fun k x hx => cell_later ((Out.refl w).alloc _) (hc k x hx)⟩) (by omega)
  have CC : Hid (∀ wx b c O, O.length = l.length → Out w wx → RestAt wx.heap.size wx b O → LS wx B B l.length → Ap wx B b O → Calls Try.prog 10 #[.slice b l.length c, .pointer (some ⟨B, 0, none⟩)] wx fun e w' => e = .returned (.bool true) ∧ LS w' B B l.length ∧ Out w w') := fun wx b c O hO ho h1 h2 h3 => by
    have := readL_any w wx ho B B hB (Nat.le_refl _) b c O h1 (by rw [hO]; exact h2) h3 (by omega)
    rw [hO] at this
    exact this
  have HR := hidOf hr
  have HB := hidOf hB
  have O1 := hidOf ((Out.refl w).alloc (.cells #[.slice none 0 0, .int .i64 0] 33))
  have Z1 := hidOf (size_alloc w (.cells #[.slice none 0 0, .int .i64 0] 33))
  have RX : Hid (∀ wx, Out w wx → RestAt wx.heap.size wx a l) := fun wx ho => by
    rcases hr with h | ⟨b, o, hb, h, hc⟩
    · exact .inl h
    · exact .inr ⟨b, o, by have := ho.size; omega, h, fun k x hx => cell_later ho (hc k x hx)⟩
  have AX : Hid (∀ wx, LS wx B B l.length → Ap wx B a l) := fun wx hs hl ad had => by
    have hlt : ad.block < w.heap.size := by
      rcases hr with h | ⟨b, o, hb, h, hc⟩
      · exact absurd h hl
      · rw [h] at had; cases had; exact hb
    refine ⟨by omega, fun g m N L hb => ?_⟩
    rcases hs with s | ⟨g1, m1, N1, L1, s, hg, _⟩
    · have h1 := hb.hp
      rw [s] at h1; simp at h1
    · have h1 := hb.hp
      rw [s.hp] at h1
      simp at h1
      omega
  have A1 : Hid (∀ wx O b c, Out (w.alloc (.cells #[.slice none 0 0, .int .i64 0] 33)) wx → OwB (w.alloc (.cells #[.slice none 0 0, .int .i64 0] 33)).heap.size (.slice b O.length c) O wx → Ap wx B b O) := fun wx O b c ho hown hl ad had => by
    have hbk : (w.alloc (.cells #[.slice none 0 0, .int .i64 0] 33)).heap.size ≤ ad.block := (World.ownsRow.lt hown ad.block (by rw [had]; rfl)).1
    rw [size_alloc] at hbk
    refine ⟨by omega, fun g m N L hb => ?_⟩
    have h1 := hb.hp
    have h0 := heap_alloc_new w (.cells #[.slice none 0 0, .int .i64 0] 33)
    rw [hB, ho.block w.heap.size (by rw [size_alloc]; omega), h0] at h1
    simp at h1
  clear hr hB
  go_enter Try.func4, Try.ntmps4
  go_upto_region 2 with fail
  rw [← HB.out]
  generalize w.alloc (.cells #[.slice none 0 0, .int .i64 0] 33) = w1 at *
  go_wp2_with (first
    | (go_at_call 10; refine (CC.out w4 a cap l rfl O4.out (RX.out w4 O4.out) S4.out (AX.out w4 S4.out)).mono ?_; rintro e w5 ⟨rfl, hs, ho⟩; have O5 := hidOf ho; clear hs ho)
    | (go_at_call 10; refine (CC.out w3 a cap l rfl O3.out (RX.out w3 O3.out) S3.out (AX.out w3 S3.out)).mono ?_; rintro e w4 ⟨rfl, hs, ho⟩; have O4 := hidOf ho; have S4 := hidOf hs; clear hs ho)
    | (go_at_call 10; refine (CC.out w2 b2 c2 O HOl.out O2.out R2.out S2.out A2.out).mono ?_; rintro e w3 ⟨rfl, hs, ho⟩; have O3 := hidOf ho; have S3 := hidOf hs; clear hs ho)
    | (go_at_call 11; refine CT.out.mono ?_; rintro e w2 ⟨v, rfl, O, hOl, hown, ho⟩; have O2 := hidOf (Out.trans O1.out ho); have S2 := hidOf (S1.out.out ho); obtain ⟨b2, c2, hv, _, hr2⟩ := OwB.rest hown; rw [hv] at hown; have A2 := hidOf (A1.out w2 O b2 c2 ho hown); have R2 := hidOf hr2; rw [hOl] at hv; subst hv; have HOl := hidOf hOl; clear hown ho hr2 hOl)
    | (go_at_call 9; refine (CA.out w5 O5.out).mono ?_; rintro e w6 ⟨rfl, ho⟩; have O6 := hidOf (Out.trans O5.out ho); clear ho))
  go_ret
  exact ⟨rfl, O6.out⟩
end Go.Proofs.Ytcojejdkjffkeaa
