import Derived.Test.YtcalbhcgimipeaaEnf
namespace Go.Proofs.Ytcalbhcgimipeaa
open Go.RowKit
set_option linter.unusedVariables false
set_option linter.unusedSimpArgs false
theorem ScAt.out {w w' : World} {a : Option Addr} {L : List SV} (h : ScAt w.heap.size w a L) (o : Out w w') : ScAt w'.heap.size w' a L := by
  rcases h with h | ⟨g, of, hg, ha, hc⟩
  · exact .inl h
  · exact .inr ⟨g, of, Nat.lt_of_lt_of_le hg o.size, ha, fun k x hx => cell_later o (hc k x hx)⟩
/-- sections that came in -/
structure SIn (W : World) (a : Option Addr) (cap : Nat) (L : List SV) : Prop where
  at_ : ScAt W.heap.size W a L
  dr : ∀ x ∈ L, DR W x
  cap : L.length ≤ cap
  len : L.length ≤ 10000000
  i64 : ∀ s ∈ secs L, I64 s
  sum : sumD (secs L) ≤ 10000000
  dat : ∀ x ∈ L, x.s.d.length ≤ 10000000
theorem SIn.copy {W wx : World} {a : Option Addr} {cap : Nat} {L : List SV} (h : SIn W a cap L) (o : Out W wx) : Calls Try.prog 13 #[.slice a L.length cap] wx fun e w' => ∃ a' c' Ls, e = .returned (.slice a' L.length c') ∧ SS wx w' (.slice a' L.length c') Ls ∧ secs Ls = secs L :=
  copySections_any wx a cap L (h.at_.out o) (fun x hx => (h.dr x hx).out o) h.cap (by have := h.len; omega) (fun x hx => by have := h.dat x hx; omega)
theorem write_not (w w0 : World) (a : Option Addr) (n c : Nat) (Ls : List SV) (hS : SS w0 w (.slice a n c) Ls) (hok : writeOk (secs Ls) = false) (hn : n ≤ 10000000) (hs : sumD (secs Ls) ≤ 100000000000) : Calls Try.prog 12 #[.slice a n c] w fun e w' => e = .returned (.tuple #[.slice none 0 0, .int .i64 92]) ∧ Out w w' := by
  obtain ⟨h1, h2, h3⟩ := hS.at
  subst h3
  refine (write_elf w a c Ls h1 hS.datAt h2 (by omega) hs).mono ?_
  rintro e w' (⟨_, he, o⟩ | ⟨h, _⟩)
  · exact ⟨he, o⟩
  · rw [hok] at h; cases h
theorem SIn.not {W : World} {a : Option Addr} {cap : Nat} {L : List SV} (h : SIn W a cap L) (hok : writeOk (secs L) = false) (w w0 : World) (a' : Option Addr) (c : Nat) (Ls : List SV) (hS : SS w0 w (.slice a' L.length c) Ls) (he : secs Ls = secs L) : Calls Try.prog 12 #[.slice a' L.length c] w fun e w' => e = .returned (.tuple #[.slice none 0 0, .int .i64 92]) ∧ Out w w' :=
  write_not w w0 a' L.length c Ls hS (by rw [he]; exact hok) h.len (by rw [he]; have := h.sum; omega)
theorem SIn.ok {W : World} {a : Option Addr} {cap : Nat} {L : List SV} (h : SIn W a cap L) (hok : writeOk (secs L) = true) (w w0 : World) (a' : Option Addr) (c : Nat) (Ls : List SV) (hS : SS w0 w (.slice a' L.length c) Ls) (he : secs Ls = secs L) : Calls Try.prog 12 #[.slice a' L.length c] w fun e w' => ∃ g c', e = .returned (.tuple #[.slice (some ⟨g, 0, none⟩) (writeB (secs L)).length c', .int .i64 0]) ∧ OwB w.heap.size (.slice (some ⟨g, 0, none⟩) (writeB (secs L)).length c') (writeB (secs L)) w' ∧ Out w w' := by
  have hz := write_size (secs L) hok (by have := h.sum; omega)
  refine (write_again w w0 a' L.length c Ls (writeB (secs L)) hS (by rw [he]; exact hok) (by rw [he]) (by rw [he]; have := h.sum; omega)).mono ?_
  rintro e w' ⟨a2, c2, he, ho, o⟩
  obtain ⟨g, rfl, _, _⟩ := ho.bin (by omega) (by omega)
  exact ⟨g, c2, he, ho, o⟩
theorem OwB.bin0 {B g c n : Nat} {l : List UInt8} {w : World} (h : OwB B (.slice (some ⟨g, 0, none⟩) n c) l w) (h0 : 0 < l.length) (hb : l.length ≤ 1000000000000) : Bin w g 0 c l := by
  obtain ⟨g', hg, _, hB⟩ := h.bin h0 hb
  cases hg
  exact hB
set_option maxRecDepth 8000 in
set_option maxHeartbeats 1000000 in
theorem elfBack_walk (W : World) (a : Option Addr) (cap : Nat) (L : List SV) (h : SIn W a cap L) : Calls Try.prog 5 #[.slice a L.length cap] W fun e W' => e = .returned (.bool true) ∧ Below W.heap.size W W' := by
  have CA := hidOf (awake9 W)
  have CC := hidOf (fun wx (o : Out W wx) => h.copy o)
  have HI := hidOf h
  cases hok : writeOk (secs L) with
  | false =>
    have CW := hidOf (h.not hok)
    clear h hok
    go_enter Try.func5, Try.ntmps5
    go_wp2_with (first | (go_at_call 9; refine (CA.out).mono ?_; rintro e w1 ⟨rfl, hO⟩; have HO := hidOf hO; clear hO) | (go_at_call 13; refine (CC.out _ HO.out).mono ?_; rintro e w2 ⟨a2, c2, Ls, rfl, hS, hs⟩; have HS := hidOf hS; have Hs := hidOf hs; have HO2 := hidOf (HO.out.trans hS.out); clear hS hs) | (go_at_call 12; refine (CW.out _ _ _ _ _ HS.out Hs.out).mono ?_; rintro e w3 ⟨rfl, hO⟩; have HO3 := hidOf (HO2.out.trans hO); clear hO) | (go_at_call 14; refine (num_any _ _).mono ?_; rintro e w4 ⟨rfl, hw⟩; subst hw))
    all_goals
      go_ret
      first | exact ⟨rfl, HO3.out⟩ | exact ⟨rfl, HO3.out.drew⟩
  | true =>
    have CW := hidOf (h.ok hok)
    have hz := write_size (secs L) hok (by have := h.sum; omega)
    have CR := hidOf (fun w g c (hB : Bin w g 0 c (writeB (secs L))) => read_back1 (secs L) hok h.i64 (by have := h.sum; omega) w g c hB)
    rw [secs_len] at CR
    have HBB := hidOf (fun (B g c : Nat) (w : World) (ho : OwB B (.slice (some ⟨g, 0, none⟩) (writeB (secs L)).length c) (writeB (secs L)) w) => ho.bin0 (by omega) (by omega))
    have CS := hidOf (fun wx w0 a' c' Ls (o : Out W wx) (hS : SS w0 wx (.slice a' L.length c') Ls) (he : secs Ls = secs L) => show Calls Try.prog 16 #[.slice a' L.length c', .slice a L.length cap] wx (fun e w' => e = .returned (.bool true) ∧ Out wx w') from by
      obtain ⟨h1, h2, h3⟩ := hS.at
      have := sameSections_any wx a' a c' cap Ls L h1 (h.at_.out o) hS.dr (fun x hx => (h.dr x hx).out o) h2 h.cap (by have := h.len; omega) (by have := h.len; omega)
      rw [(sameL_iff _ _).2 he, ← h3] at this
      exact this)
    clear h hok hz
    generalize (writeB (secs L)).length = nb at *
    go_enter Try.func5, Try.ntmps5
    go_wp2_with (first | (go_at_call 9; refine (CA.out).mono ?_; rintro e w1 ⟨rfl, hO⟩; have HO := hidOf hO; clear hO) | (go_at_call 13; refine (CC.out _ HO.out).mono ?_; rintro e w2 ⟨a2, c2, Ls, rfl, hS, hs⟩; have HS := hidOf hS; have Hs := hidOf hs; have HO2 := hidOf (HO.out.trans hS.out); clear hS hs) | (go_at_call 12; refine (CW.out _ _ _ _ _ HS.out Hs.out).mono ?_; rintro e w3 ⟨g3, c3, rfl, hB, hO⟩; have HB3 := hidOf (HBB.out _ _ _ _ hB); have HO3 := hidOf (HO2.out.trans hO); clear hB hO) | (go_at_call 14; refine (num_any _ _).mono ?_; rintro e w4 ⟨rfl, hw⟩; subst hw) | (go_at_call 15; refine (CR.out _ _ _ HB3.out).mono ?_; rintro e w5 ⟨a5, c5, Ls5, rfl, hS, hs⟩; have HS5 := hidOf hS; have Hs5 := hidOf hs; have HO5 := hidOf (HO3.out.trans hS.out); clear hS hs) | (go_at_call 16; refine (CS.out _ _ _ _ _ HO5.out HS5.out Hs5.out).mono ?_; rintro e w6 ⟨rfl, hO⟩; have HO6 := hidOf (HO5.out.trans hO); clear hO))
    all_goals
      go_ret
      first | exact ⟨rfl, HO6.out⟩ | exact ⟨rfl, HO6.out.drew⟩
end Go.Proofs.Ytcalbhcgimipeaa
