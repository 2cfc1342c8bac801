import Derived.Test.YteobjcghfdpfbaaDoorPl
namespace Go.Proofs.YteobjcghfdpfbaaDoor
open Go.RowKit
set_option linter.unusedVariables false
set_option linter.unusedSimpArgs false
/-- what a call makes of instructions that are copied -/
theorem copyI' (w : World) (a : Option Addr) (n cap : Nat) (l : List Ins) (hn : l.length = n) (hi : InsA w a l) (hm : n ≤ 3518437208883) : Calls Tryd.prog 25 #[.slice a n cap] w fun e w' => ∃ a1 c1, e = .returned (.slice a1 n c1) ∧ InsA w' a1 l ∧ Out w w' := by
  refine (copyI w a n cap l hn hi hm).mono ?_
  rintro e w' ⟨v, rfl, hown, ho⟩
  obtain ⟨a1, c1, rfl, hA, _⟩ := owns_insA hown
  rw [hn]
  exact ⟨a1, c1, rfl, hA, ho⟩
theorem enc_no {w w' : World} {l : List Ins} {v : Value} {k f p M : Int} (h : EncIs w w' l v k f) (hr : RefIs l p M) (hM : M ≠ 0) : v = .slice none 0 0 ∧ k = p ∧ M = f := by
  rcases h with ⟨h0, h1, _⟩ | ⟨h0, h1, h2, _⟩
  · exact ⟨h0, (h1.one hr).1, (h1.one hr).2.symm⟩
  · have := (RefIs.one (.inl ⟨h2, rfl, rfl⟩) hr).2
    exact absurd this.symm hM
theorem ref_ex (l : List Ins) : (∀ x ∈ l, may x = 0) ∨ ∃ (p : Nat) (y : Ins), l[p]? = some y ∧ may y ≠ 0 ∧ ∀ (j : Nat) (z : Ins), j < p → l[j]? = some z → may z = 0 := by
  induction l with
  | nil => exact .inl (fun x hx => by cases hx)
  | cons x r ih =>
    by_cases hx : may x = 0
    · rcases ih with h | ⟨p, y, h1, h2, h3⟩
      · exact .inl (fun y hy => by
        rcases List.mem_cons.1 hy with rfl | hy
        · exact hx
        · exact h y hy)
      · refine .inr ⟨p + 1, y, by simpa using h1, h2, fun j z hj hz => ?_⟩
        cases j with
        | zero => simp at hz; subst hz; exact hx
        | succ j => exact h3 j z (by omega) (by simpa using hz)
    · exact .inr ⟨0, x, rfl, hx, fun j z hj => by omega⟩
theorem back_all (w : World) (ht : Tabs w) (a : Option Addr) (n cap : Nat) (l : List Ins) (hn : l.length = n) (hi : InsA w a l) (hm : n ≤ 3518437208883) (hI : ∀ x ∈ l, -9223372036854775808 ≤ x.i ∧ x.i ≤ 9223372036854775807) (hall : ∀ x ∈ l, may x = 0) :
    Calls Tryd.prog 5 #[.slice a n cap] w fun e w' => e = .returned (.bool true) ∧ Out w w' := by
  have Ht := hidOf ht
  have Hi := hidOf hi
  have Hn := hidOf hn
  have HI := hidOf hI
  have Hall := hidOf hall
  have hq := slots_le l
  clear ht hi hI hall
  obtain ⟨q, Hq⟩ : ∃ q, Hid (slotsP l = q) := ⟨_, hidOf rfl⟩
  have hq1 : q ≤ 2 * n := by have := Hq.out; omega
  clear hn hq
  go_enter Tryd.func5, Tryd.ntmps5
  go_upto_region 4 with (first | (go_at_call 8; refine (awake_any _ Ht.out).mono ?_; rintro e w1 ⟨rfl, ho1⟩; have Ho1 := hidOf ho1; clear ho1) | (go_at_call 25; refine (copyI' _ a n cap l Hn.out (Hi.out.out Ho1.out) (by omega)).mono ?_; rintro e w2 ⟨a1, c1, rfl, hA1, ho2⟩; have Ho2 := hidOf (Out.trans Ho1.out ho2); have HA1 := hidOf hA1; clear ho2 hA1) | (go_at_call 12; refine (encode_any _ (Ht.out.out Ho2.out) a1 n c1 l Hn.out HA1.out (by omega) HI.out).mono ?_; rintro e w3 ⟨v, k, f, rfl, henc, ho3⟩; have Ho3 := hidOf (Out.trans Ho2.out ho3); obtain ⟨rfl, rfl, hown, g, hg, rfl⟩ := enc_ok henc Hall.out; have Hown := hidOf hown; clear hown henc hg ho3))
  have He : Hid ((encL l).length = 8 * q) := by show _ = _; rw [encL_len, Hq.out]
  rw [He.out]
  have HBy : Hid (BytA w3 (some ⟨g, 0, none⟩) (encL l)) := by
    obtain ⟨a2, c2, e1, e2, _⟩ := owns_bytA Hown.out
    cases e1; exact e2
  clear Hown
  have hq2 : (q : Int) ≤ 7036874417766 := by omega
  go_wp2
  go_loopw [6] (fun i wr => ∃ k : Nat, k ≤ n ∧ i = .int .i64 k ∧ Hid (Out w3 wr)) (fun i _ => n - (intOf i).toNat)
  case atStart => exact ⟨0, by omega, rfl, hidOf (Out.refl _)⟩
  case round =>
    obtain ⟨k, hk, rfl, Hr⟩ := hrel
    have Hw := hidOf (Out.trans Ho3.out Hr.out)
    by_cases hkl : k < n
    · have hlt : (k : Int) < n := by omega
      obtain ⟨x, hx⟩ : ∃ x, l[k]? = some x := ⟨_, List.getElem?_eq_getElem (by have := Hn.out; omega)⟩
      have hmx : may x = 0 := Hall.out x (List.mem_of_getElem? hx)
      rcases Hi.out with hz | ⟨b, off, rfl, hc⟩
      · simp [hz] at hx
      obtain ⟨c0, c1, c2, c3, c4⟩ := hc k x hx
      have q0 := cell_later Hw.out c0
      have q1 := cell_later Hw.out c1
      have q2 := cell_later Hw.out c2
      have q3 := cell_later Hw.out c3
      have q4 := cell_later Hw.out c4
      obtain ⟨xo, xd, xs, xf, xi⟩ := x
      simp only [may] at q0 q1 q2 q3 q4 hmx
      clear hc c0 c1 c2 c3 c4 hx
      have HM := hidOf (fun (wx : World) (h : Tabs wx) => may_lit wx h.1 h.2 xo xd xs xf xi)
      rw [hmx] at HM
      clear hmx
      go_wp2_with (first | (go_at_call 26; refine (HM.out _ (Ht.out.out Hw.out)).mono ?_; rintro e w4 ⟨rfl, h4⟩) | (go_at_call 13; refine (num_any _ _).mono ?_; rintro e w5 ⟨rfl, rfl⟩))
      go_roundw
      case rel => exact ⟨k + 1, by omega, by simp, hidOf (Out.trans Hr.out h4)⟩
      case measure => simp [intOf]; omega
    · have hlt : ¬ (k : Int) < n := by omega
      obtain rfl : k = n := by omega
      have Hback := hidOf (dec_back may l (fun x hx => ⟨may_fit x (Hall.out x hx) (HI.out x hx).1 (HI.out x hx).2, Hall.out x hx⟩))
      have Hmany := hidOf (dec_many l (fun x hx => ⟨may_fit x (Hall.out x hx) (HI.out x hx).1 (HI.out x hx).2, Hall.out x hx⟩) (by have := Hn.out; omega))
      go_wp2_with (first | (go_at_call 13; refine (num_any _ _).mono ?_; rintro e w5 ⟨rfl, rfl⟩) | (go_at_call 25; refine (copyI' _ a k cap l Hn.out (Hi.out.out Hw.out) (by omega)).mono ?_; rintro e w6 ⟨a6, c6, rfl, hA6, ho6⟩; have Ho6 := hidOf (Out.trans Hr.out ho6); have HA6 := hidOf hA6; clear ho6 hA6) | (go_at_call 27; refine (slots_any _ a6 k c6 l Hn.out HA6.out (by omega)).mono ?_; rw [Hq.out]; rintro e w7 ⟨rfl, ho7⟩; have Ho7 := hidOf (Out.trans Ho6.out ho7); clear ho7) | (go_at_call 21; refine (decode_any _ (Ht.out.out (Out.trans Ho3.out Ho7.out)) (some ⟨g, 0, none⟩) (8 * q) (8 * q) (encL l) He.out (encL_byts l) (HBy.out.out Ho7.out) (by omega) (Nat.le_refl _) Hmany.out).mono ?_; rintro e w8 ⟨v8, l8, k8, f8, rfl, hdec, hown8, ho8⟩; obtain ⟨rfl, rfl, rfl⟩ := hdec.one Hback.out; obtain ⟨a8, c8, rfl, hA8, _⟩ := owns_insA hown8; have HA8 := hidOf hA8; have Ho8 := hidOf (Out.trans Ho7.out ho8); clear ho8 hA8 hdec hown8) | (go_at_call 22; rw [Hn.out]; refine (sameI _ a8 a k c8 cap _ Hn.out HA8.out (Hi.out.out (Out.trans Ho3.out Ho8.out)) (by omega)).mono ?_; rintro e w9 ⟨rfl, m9, rfl⟩))
      go_ret
      exact ⟨rfl, (Out.trans Ho3.out Ho8.out).drewN _⟩
theorem back_not (w : World) (ht : Tabs w) (a : Option Addr) (n cap : Nat) (l : List Ins) (hn : l.length = n) (hi : InsA w a l) (hm : n ≤ 3518437208883) (hI : ∀ x ∈ l, -9223372036854775808 ≤ x.i ∧ x.i ≤ 9223372036854775807)
    (p : Nat) (y : Ins) (hy : l[p]? = some y) (hy0 : may y ≠ 0) (hy1 : ∀ j z, j < p → l[j]? = some z → may z = 0) :
    Calls Tryd.prog 5 #[.slice a n cap] w fun e w' => e = .returned (.bool true) ∧ Out w w' := by
  have hp : p < n := by have := (List.getElem?_eq_some_iff.1 hy).1; omega
  have Hr0 : Hid (RefIs l p (may y)) := .inr ⟨p, y, rfl, hy, rfl, hy0, hy1⟩
  have Ht := hidOf ht
  have Hi := hidOf hi
  have Hn := hidOf hn
  have HI := hidOf hI
  have Hy := hidOf hy
  have Hy1 := hidOf hy1
  rcases hi with hz | ⟨b, off, rfl, hc⟩
  · simp [hz] at hy
  have Hc := hidOf hc
  clear ht hI hn hy hy1 hc
  generalize hM : may y = M at *
  have HM := hidOf hM
  clear hM
  have hM0 : (M == 0) = false := by simpa using hy0
  go_enter Tryd.func5, Tryd.ntmps5
  go_upto_region 4 with (first | (go_at_call 8; refine (awake_any _ Ht.out).mono ?_; rintro e w1 ⟨rfl, ho1⟩; have Ho1 := hidOf ho1; clear ho1) | (go_at_call 25; refine (copyI' _ _ n cap l Hn.out (Hi.out.out Ho1.out) (by omega)).mono ?_; rintro e w2 ⟨a1, c1, rfl, hA1, ho2⟩; have Ho2 := hidOf (Out.trans Ho1.out ho2); have HA1 := hidOf hA1; clear ho2 hA1) | (go_at_call 12; refine (encode_any _ (Ht.out.out Ho2.out) a1 n c1 l Hn.out HA1.out (by omega) HI.out).mono ?_; rintro e w3 ⟨v, k, f, rfl, henc, ho3⟩; have Ho3 := hidOf (Out.trans Ho2.out ho3); obtain ⟨rfl, rfl, rfl⟩ := enc_no henc Hr0.out hy0; clear henc ho3))
  go_wp2
  go_loopw [6] (fun i wr => ∃ k : Nat, k ≤ p ∧ i = .int .i64 k ∧ Hid (Out w wr)) (fun i _ => n - (intOf i).toNat)
  case atStart => exact ⟨0, by omega, rfl, Ho3⟩
  case round =>
    obtain ⟨k, hk, rfl, Hw⟩ := hrel
    have hlt : (k : Int) < n := by omega
    obtain ⟨x, hx⟩ : ∃ x, l[k]? = some x := ⟨_, List.getElem?_eq_getElem (by have := Hn.out; omega)⟩
    obtain ⟨c0, c1, c2, c3, c4⟩ := Hc.out k x hx
    have q0 := cell_later Hw.out c0
    have q1 := cell_later Hw.out c1
    have q2 := cell_later Hw.out c2
    have q3 := cell_later Hw.out c3
    have q4 := cell_later Hw.out c4
    clear c0 c1 c2 c3 c4
    by_cases hkl : k < p
    · have hmx : may x = 0 := Hy1.out k x hkl hx
      obtain ⟨xo, xd, xs, xf, xi⟩ := x
      simp only [may] at q0 q1 q2 q3 q4 hmx
      have HN := hidOf (fun (wx : World) (h : Tabs wx) => may_lit wx h.1 h.2 xo xd xs xf xi)
      rw [hmx] at HN
      clear hmx hx
      go_wp2_with (first | (go_at_call 26; refine (HN.out _ (Ht.out.out Hw.out)).mono ?_; rintro e w4 ⟨rfl, h4⟩) | (go_at_call 13; refine (num_any _ _).mono ?_; rintro e w5 ⟨rfl, rfl⟩))
      go_roundw
      case rel => exact ⟨k + 1, by omega, by simp, hidOf (Out.trans Hw.out h4)⟩
      case measure => simp [intOf]; omega
    · obtain rfl : k = p := by omega
      have hxy : x = y := by have := Hy.out; rw [hx] at this; exact Option.some.inj this
      have hmx : may x = M := by rw [hxy]; exact HM.out
      obtain ⟨xo, xd, xs, xf, xi⟩ := x
      simp only [may] at q0 q1 q2 q3 q4 hmx
      have HN := hidOf (fun (wx : World) (h : Tabs wx) => may_lit wx h.1 h.2 xo xd xs xf xi)
      rw [hmx] at HN
      clear hmx hx hxy
      go_wp2_with (first | (go_at_call 26; refine (HN.out _ (Ht.out.out (by first | exact Hw.out | exact (Out.trans Hw.out h4)))).mono ?_; rintro e w4 ⟨rfl, h4⟩; first | (have e0 := cell_later h4 q0; have e1 := cell_later h4 q1; have e2 := cell_later h4 q2; have e3 := cell_later h4 q3; have e4 := cell_later h4 q4) | skip) | (go_at_call 13; refine (num_any _ _).mono ?_; rintro e w5 ⟨rfl, rfl⟩))
      go_ret
      refine ⟨rfl, ?_⟩
      repeat (first | exact Hw.out | (refine Out.trans ?_ (by assumption)))
theorem codeBack_walk (w : World) (ht : Tabs w) (a : Option Addr) (n cap : Nat) (l : List Ins) (hn : l.length = n) (hi : InsA w a l) (hm : n ≤ 3518437208883) (hI : ∀ x ∈ l, -9223372036854775808 ≤ x.i ∧ x.i ≤ 9223372036854775807) :
    Calls Tryd.prog 5 #[.slice a n cap] w fun e w' => e = .returned (.bool true) ∧ Out w w' := by
  rcases ref_ex l with h | ⟨p, y, h1, h2, h3⟩
  · exact back_all w ht a n cap l hn hi hm hI h
  · exact back_not w ht a n cap l hn hi hm hI p y h1 h2 h3
end Go.Proofs.YteobjcghfdpfbaaDoor
