import Derived.Test.YteobjcghfdpfbaaDoorBn
namespace Go.Proofs.YteobjcghfdpfbaaDoor
open Go.RowKit
set_option linter.unusedVariables false
set_option linter.unusedSimpArgs false
def exitT : Ins := ⟨149, 0, 0, 0, 0⟩
def turnedL (l : List Ins) (t : Nat) : List Ins := if t = 1 then l.set (l.length / 2) exitT else if t = 2 then l.reverse else l
theorem turnedL_len (l : List Ins) (t : Nat) : (turnedL l t).length = l.length := by unfold turnedL; split <;> (try split) <;> simp
/-- what Turned answers -/
def TurnIs (w w' : World) (n : Nat) (l : List Ins) (e : Ending) : Prop := ∃ a1 c1, e = .returned (.slice a1 n c1) ∧ InsA w' a1 l ∧ (∀ ad, a1 = some ad → w.heap.size ≤ ad.block) ∧ Out w w'
theorem owns_addr {w : World} {B size n m c : Nat} {e : TypeId} {a : Option Addr} {xs : List Value} (h : w.ownsRow B e size (.slice a m c) n xs) : ∀ ad, a = some ad → B ≤ ad.block := by
  intro ad had
  subst had
  exact (h.lt ad.block rfl).1
theorem InsA.chg {S : Nat → Prop} {w w' : World} {a : Option Addr} {l : List Ins} (h : InsA w a l) (c : Chg S w w') (hs : ∀ ad, a = some ad → ¬ S ad.block) : InsA w' a l := by
  rcases h with h | ⟨b, off, rfl, h⟩
  · exact .inl h
  · have hb := hs _ rfl
    exact .inr ⟨b, off, rfl, fun k x hx => by
      obtain ⟨h0, h1, h2, h3, h4⟩ := h k x hx
      exact ⟨c.cell h0 hb, c.cell h1 hb, c.cell h2 hb, c.cell h3 hb, c.cell h4 hb⟩⟩
theorem turned_plain (w : World) (a : Option Addr) (n cap : Nat) (l : List Ins) (hn : l.length = n) (hi : InsA w a l) (hm : n ≤ 3518437208780) (t : Int) (h1 : (t == 1) = false) (h2 : (t == 2) = false) : Calls Tryd.prog 10 #[.slice a n cap, .int .i64 t] w fun e w' => TurnIs w w' n l e := by
  have Hn := hidOf hn
  have Hi := hidOf hi
  clear hn hi
  go_enter Tryd.func10, Tryd.ntmps10
  go_wp2_with (go_at_call 25; refine (copyI _ a n cap l Hn.out Hi.out (by omega)).mono ?_; rintro e w1 ⟨v, rfl, hown, ho⟩; have Hown := hidOf hown; have Ho := hidOf ho; clear hown ho; obtain ⟨a1, c1, rfl, hA1, _⟩ := owns_insA Hown.out; have HA1 := hidOf hA1; clear hA1; rw [Hn.out])
  refine wp_loop_rounds 1 ?_
  rw [rounds_succ]
  go_wp2
  go_ret
  exact ⟨a1, c1, rfl, HA1.out, owns_addr Hown.out, Ho.out⟩
theorem turned_mid (w : World) (a : Option Addr) (n cap : Nat) (l : List Ins) (hn : l.length = n) (hi : InsA w a l) (hm : n ≤ 3518437208780) (h0 : 0 < n) : Calls Tryd.prog 10 #[.slice a n cap, .int .i64 1] w fun e w' => TurnIs w w' n (l.set (l.length / 2) exitT) e := by
  have Hn := hidOf hn
  have Hi := hidOf hi
  clear hn hi
  have h0' : (0 : Int) < n := by omega
  have hh : (n : Int) / 2 < n := by omega
  have hh0 : (0 : Int) ≤ (n : Int) / 2 := by omega
  go_enter Tryd.func10, Tryd.ntmps10
  go_upto_region 2 with (go_at_call 25; refine (copyI _ a n cap l Hn.out Hi.out (by omega)).mono ?_; rintro e w1 ⟨v, rfl, hown, ho⟩; have Hown := hidOf hown; have Ho := hidOf ho; clear hown ho)
  rcases owns_rowI Hown.out with ⟨rfl, hz⟩ | ⟨g, c1, R, rfl, hR, hB, hc1, hcm, hcl⟩
  · have := Hn.out; rw [hz] at this; simp at this; omega
  rw [Hn.out]
  have hh2 : n / 2 < l.length := by have := Hn.out; omega
  obtain ⟨x, hx⟩ : ∃ x, l[n / 2]? = some x := ⟨_, List.getElem?_eq_getElem hh2⟩
  obtain ⟨d0, d1, d2, d3, d4⟩ := hR.cells hx
  have g0 := hR.frozen (n / 2 * 5)
  have g1 := hR.frozen (n / 2 * 5 + 1)
  have g2 := hR.frozen (n / 2 * 5 + 2)
  have g3 := hR.frozen (n / 2 * 5 + 3)
  have g4 := hR.frozen (n / 2 * 5 + 4)
  have HR := hidOf hR
  clear hR hx hcl hc1 hcm
  go_wp2
  refine wp_loop_rounds 1 ?_
  rw [rounds_succ]
  go_wp2
  go_ret
  refine ⟨some ⟨g, 0, none⟩, c1, rfl, ?_, fun ad had => by cases had; exact hB, ?_⟩
  · have := (HR.out.set (i := n / 2) hh2 149 0 0 0 0).insA
    rw [Hn.out]; exact this
  · exact ((((Ho.out.setCell (a := ⟨g, n / 2 * 5, none⟩) hB _).setCell (a := ⟨g, n / 2 * 5 + 1, none⟩) hB _).setCell (a := ⟨g, n / 2 * 5 + 2, none⟩) hB _).setCell (a := ⟨g, n / 2 * 5 + 3, none⟩) hB _).setCell (a := ⟨g, n / 2 * 5 + 4, none⟩) hB _
def revL (l : List Ins) (j : Nat) : List Ins := l.reverse.take j ++ l.drop j
theorem revL_len (l : List Ins) (j : Nat) (h : j ≤ l.length) : (revL l j).length = l.length := by simp [revL]; omega
theorem revL_set (l : List Ins) (j m : Nat) (x : Ins) (h : l.length = j + m + 1) (hx : l[m]? = some x) : (revL l j).set j x = revL l (j + 1) := by
  unfold revL
  have hl : (l.reverse.take j).length = j := by simp; omega
  rw [List.set_append_right _ _ (by omega), hl, Nat.sub_self, List.drop_eq_getElem_cons (show j < l.length by omega), List.set_cons_zero]
  have e : l.reverse.take (j + 1) = l.reverse.take j ++ [x] := by
    rw [List.take_add_one]
    have : l.reverse[j]? = some x := by
      rw [List.getElem?_reverse (by omega), show l.length - 1 - j = m by omega]; exact hx
    rw [this]; rfl
  rw [e, List.append_assoc]; rfl
theorem turned_back (w : World) (a : Option Addr) (n cap : Nat) (l : List Ins) (hn : l.length = n) (hi : InsA w a l) (hm : n ≤ 3518437208780) (h0 : 0 < n) : Calls Tryd.prog 10 #[.slice a n cap, .int .i64 2] w fun e w' => TurnIs w w' n l.reverse e := by
  have Hn := hidOf hn
  have Hi := hidOf hi
  rcases hi with hz | ⟨b, off, rfl, hc⟩
  · rw [hz] at hn; simp at hn; omega
  have Hc := hidOf hc
  clear hn hc
  have h0' : (0 : Int) < n := by omega
  go_enter Tryd.func10, Tryd.ntmps10
  go_upto_region 2 with (go_at_call 25; refine (copyI _ _ n cap l Hn.out Hi.out (by omega)).mono ?_; rintro e w1 ⟨v, rfl, hown, ho⟩; have Hown := hidOf hown; have Ho := hidOf ho; clear hown ho)
  rcases owns_rowI Hown.out with ⟨rfl, hz⟩ | ⟨g, c1, R, rfl, hR, hB, hc1, hcm, hcl⟩
  · have := Hn.out; rw [hz] at this; simp at this; omega
  rw [Hn.out]
  have HR := hidOf hR
  clear hR hcl hc1 hcm
  go_wp2
  go_loopw [6] (fun i wr => ∃ j : Nat, j ≤ n ∧ i = .int .i64 j ∧ Hid (RowI wr g (revL l j) R) ∧ Hid (Out w wr)) (fun i _ => n - (intOf i).toNat)
  case atStart => exact ⟨0, by omega, rfl, by simpa [Hid, revL] using HR.out, Ho⟩
  case round =>
    obtain ⟨j, hj, rfl, Hr, Hw⟩ := hrel
    by_cases hjn : j < n
    · have hlt : (j : Int) < n := by omega
      obtain ⟨m, hm1⟩ : ∃ m, n = j + m + 1 := ⟨n - 1 - j, by omega⟩
      obtain ⟨x, hx⟩ : ∃ x, l[m]? = some x := ⟨_, List.getElem?_eq_getElem (by have := Hn.out; omega)⟩
      obtain ⟨y, hy⟩ : ∃ y, (revL l j)[j]? = some y := ⟨_, List.getElem?_eq_getElem (by have := Hn.out; rw [revL_len _ _ (by omega)]; omega)⟩
      obtain ⟨c0, c1', c2, c3, c4⟩ := Hc.out m x hx
      have q0 := cell_later Hw.out c0
      have q1 := cell_later Hw.out c1'
      have q2 := cell_later Hw.out c2
      have q3 := cell_later Hw.out c3
      have q4 := cell_later Hw.out c4
      obtain ⟨d0, d1, d2, d3, d4⟩ := Hr.out.cells hy
      have g0 := Hr.out.frozen (j * 5)
      have g1 := Hr.out.frozen (j * 5 + 1)
      have g2 := Hr.out.frozen (j * 5 + 2)
      have g3 := Hr.out.frozen (j * 5 + 3)
      have g4 := Hr.out.frozen (j * 5 + 4)
      have Hset := hidOf (revL_set l j m x (by have := Hn.out; omega) hx)
      have hsub : (n : Int) - 1 - (j : Int) = (m : Int) := by omega
      have hmn : (m : Int) < n := by omega
      have hl2 : Hid (j < (revL l j).length) := by show _ < _; have := Hn.out; rw [revL_len _ _ (by omega)]; omega
      obtain ⟨xo, xd, xs, xf, xi⟩ := x
      simp only at q0 q1 q2 q3 q4
      have Hm1 := hidOf hm1
      clear c0 c1' c2 c3 c4 hx hy hm1
      go_wp2
      go_roundw
      case rel =>
        refine ⟨j + 1, by omega, by simp, ?_, ?_⟩
        · have := Hr.out.set (i := j) hl2.out xo xd xs xf xi
          rw [Hset.out] at this; exact this
        · exact hidOf (((((Hw.out.setCell (a := ⟨g, j * 5, none⟩) hB _).setCell (a := ⟨g, j * 5 + 1, none⟩) hB _).setCell (a := ⟨g, j * 5 + 2, none⟩) hB _).setCell (a := ⟨g, j * 5 + 3, none⟩) hB _).setCell (a := ⟨g, j * 5 + 4, none⟩) hB _)
      case measure => simp [intOf]; omega
    · have hlt : ¬ (j : Int) < n := by omega
      obtain rfl : j = n := by omega
      go_wp2
      go_ret
      refine ⟨some ⟨g, 0, none⟩, c1, rfl, ?_, fun ad had => by cases had; exact hB, Hw.out⟩
      have := Hr.out.insA
      have e : revL l j = l.reverse := by
        have := Hn.out
        simp [revL, List.take_of_length_le (show l.reverse.length ≤ j by simp; omega), List.drop_of_length_le (show l.length ≤ j by omega)]
      rwa [e] at this
theorem turned_nil (w : World) (a : Option Addr) (cap : Nat) (t : Int) : Calls Tryd.prog 10 #[.slice a 0 cap, .int .i64 t] w fun e w' => TurnIs w w' 0 [] e := by
  cases h2 : (t == 2)
  · cases h1 : (t == 1)
    · exact turned_plain w a 0 cap [] rfl (.inl rfl) (by omega) t h1 h2
    · obtain rfl : t = 1 := by simpa using h1
      go_enter Tryd.func10, Tryd.ntmps10
      go_wp2_with (go_at_call 25; refine (copyI _ a 0 cap [] rfl (.inl rfl) (by omega)).mono ?_; rintro e w1 ⟨v, rfl, hown, ho⟩; have Hown := hidOf hown; have Ho := hidOf ho; clear hown ho; obtain ⟨a1, c1, rfl, hA1, _⟩ := owns_insA Hown.out; have HA1 := hidOf hA1; clear hA1)
      refine wp_loop_rounds 1 ?_
      rw [rounds_succ]
      go_wp2
      go_ret
      exact ⟨a1, c1, rfl, HA1.out, owns_addr Hown.out, Ho.out⟩
  · obtain rfl : t = 2 := by simpa using h2
    go_enter Tryd.func10, Tryd.ntmps10
    go_wp2_with (go_at_call 25; refine (copyI _ a 0 cap [] rfl (.inl rfl) (by omega)).mono ?_; rintro e w1 ⟨v, rfl, hown, ho⟩; have Hown := hidOf hown; have Ho := hidOf ho; clear hown ho; obtain ⟨a1, c1, rfl, hA1, _⟩ := owns_insA Hown.out; have HA1 := hidOf hA1; clear hA1)
    refine wp_loop_rounds 1 ?_
    rw [rounds_succ]
    go_wp2
    go_ret
    exact ⟨a1, c1, rfl, HA1.out, owns_addr Hown.out, Ho.out⟩
theorem turned_any (w : World) (a : Option Addr) (n cap : Nat) (l : List Ins) (hn : l.length = n) (hi : InsA w a l) (hm : n ≤ 3518437208780) (t : Nat) : Calls Tryd.prog 10 #[.slice a n cap, .int .i64 t] w fun e w' => TurnIs w w' n (turnedL l t) e := by
  by_cases h0 : n = 0
  · subst h0
    obtain rfl : l = [] := List.length_eq_zero_iff.1 hn
    have : turnedL [] t = [] := by unfold turnedL; split <;> (try split) <;> rfl
    rw [this]; exact turned_nil w a cap t
  · by_cases h1 : t = 1
    · subst h1; exact turned_mid w a n cap l hn hi hm (by omega)
    · by_cases h2 : t = 2
      · subst h2; exact turned_back w a n cap l hn hi hm (by omega)
      · have : turnedL l t = l := by simp [turnedL, h1, h2]
        rw [this]
        exact turned_plain w a n cap l hn hi hm t (by simp; omega) (by simp; omega)
theorem back_any (w0 w : World) (g n : Nat) (a2 : Option Addr) (c2 : Nat) (l : List Ins) (hL : Lent w0 w g n l) (hi : InsA w a2 l) (hm : n ≤ 3518437208780) : Calls Tryd.prog 15 #[.slice (some ⟨g, 0, none⟩) n (2 * n + 70), .slice a2 n c2] w fun e w' => e = .returned (.bool true) ∧ Out w w' := by
  have HL := hidOf hL
  have Hi := hidOf hi
  clear hL hi
  have hz : ¬ 2 * n + 70 = 0 := by omega
  go_enter Tryd.func15, Tryd.ntmps15
  go_wp2
  go_loopw [6] (fun i wr => ∃ j : Nat, j ≤ 2 * n + 70 ∧ n ≤ j ∧ i = .int .i64 j ∧ Hid (Out w wr)) (fun i _ => 2 * n + 70 - (intOf i).toNat)
  case atStart => exact ⟨n, by omega, by omega, rfl, hidOf (Out.refl _)⟩
  case round =>
    obtain ⟨j, hj, hnj, rfl, Ho⟩ := hrel
    by_cases hjn : j < 2 * n + 70
    · have hlt : (j : Int) < 2 * (n : Int) + 70 := by omega
      have hlt2 : (j : Int) < ((2 * n + 70 : Nat) : Int) := by omega
      have hx : (l ++ behL n (n + 70))[j]? = some (behI j) := by
        have := HL.out.len_
        rw [List.getElem?_append_right (by omega), this, behL, List.getElem?_map, List.getElem?_range' (by omega)]
        simp only [Option.map_some, Option.some.injEq]
        congr 1; omega
      obtain ⟨c0, c1, c2', c3, c4⟩ := (HL.out.row.out Ho.out).cells hx
      simp only [behI] at c0 c1 c2' c3 c4
      clear hx
      have hself : (-7 - (j : Int)) = (-7 - (j : Int)) := rfl
      go_upto_region 5 with fail
      go_region_held3 (fun w' => w'.cell? ⟨g, j * 5, none⟩ = some (.int .i64 149) ∧ w'.cell? ⟨g, j * 5 + 1, none⟩ = some (.int .i64 (-7 - (j : Int))) ∧ w'.cell? ⟨g, j * 5 + 2, none⟩ = some (.int .i64 0) ∧ w'.cell? ⟨g, j * 5 + 3, none⟩ = some (.int .i64 0) ∧ w'.cell? ⟨g, j * 5 + 4, none⟩ = some (.int .i64 (j : Int))) (go_keep)
        (first | (go_at_call 29; refine (behind_any j (by omega) _).mono ?_; rintro e w1 ⟨rfl, h1⟩; have e0 := cell_later h1 c0; have e1 := cell_later h1 c1; have e2 := cell_later h1 c2'; have e3 := cell_later h1 c3; have e4 := cell_later h1 c4))
      go_wp2
      go_roundw
      case rel => exact ⟨j + 1, by omega, by omega, by simp, hidOf (Out.trans (Ho.out.drewN _) h1)⟩
      case measure => simp [intOf]; omega
    · have hlt : ¬ (j : Int) < 2 * (n : Int) + 70 := by omega
      go_wp2_with (go_at_call 22; refine (sameI _ (some ⟨g, 0, none⟩) a2 n (2 * n + 70) c2 l HL.out.len_ (HL.out.insA.out Ho.out) (Hi.out.out Ho.out) (by omega)).mono ?_; rintro e w2 ⟨rfl, m, rfl⟩)
      go_ret
      exact ⟨rfl, Ho.out.drewN _⟩
theorem refWide_any (o : Int) (w : World) : Calls Tryd.prog 49 #[.int .i64 o] w fun e w' => e = .returned (.bool (isW o)) ∧ w = w' := by
  go_enter Tryd.func49, Tryd.ntmps49
  go_wp2
  go_ret
  exact ⟨rfl, rfl⟩
end Go.Proofs.YteobjcghfdpfbaaDoor
