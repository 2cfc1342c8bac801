import Derived.Test.YtoobdcjkhphlcaaRel
namespace Go.Proofs.Ytoobdcjkhphlcaa
open Go.RowKit
set_option linter.unusedVariables false
set_option linter.unusedSimpArgs false
theorem nmB_cons (b : UInt8) (r : List UInt8) : nmB (b :: r) = b.toNat + 256 * nmB r := rfl
theorem nmB_drop {l : List UInt8} {i : Nat} {x : UInt8} (h : l[i]? = some x) : nmB (l.drop i) = x.toNat + 256 * nmB (l.drop (i + 1)) := by
  obtain ⟨hi, hx⟩ := List.getElem?_eq_some_iff.1 h
  rw [List.drop_eq_getElem_cons hi, hx, nmB_cons]
theorem nmB_mono : ∀ (l : List UInt8) (i : Nat), nmB (l.drop i) ≤ nmB l
  | [], i => by simp
  | b :: r, 0 => by simp
  | b :: r, i + 1 => by
    have := nmB_mono r i
    rw [List.drop_succ_cons, nmB_cons]
    omega
set_option maxRecDepth 8000 in
set_option maxHeartbeats 1000000 in
theorem taken_small8 (B : Nat) (b off c : Nat) (l : List UInt8) (w : World) (h : BAt w b off l) (hn : 8 = l.length) (hs : nmB l ≤ 9223372036854775807) (x : UInt8) (hx : l[7]? = some x) (hx7 : x.toNat < 128) :
    Calls Try.prog 32 #[.slice (some ⟨b, off, none⟩) 8 c] w fun e w' => e = .returned (.int .i64 (nmB l : Nat)) ∧ w' = w := by
  have H := hidOf h
  have hm := hidOf (fun i => Nat.le_trans (nmB_mono l i) hs)
  have Hn := hidOf hn
  have d7 := h 7 x hx
  have hxI : ¬ (128 : Int) ≤ x.toNat := by omega
  clear hx hx7 h hs hn
  go_enter Try.func32, Try.ntmps32
  go_wp2
  clear d7 hxI
  go_loopw [4, 3] (fun iv xv wr => ∃ (k : Nat) (z : Int), iv = .int .i64 z ∧ z = (k : Int) - 1 ∧ k ≤ 8 ∧ xv = .int .i64 (nmB (l.drop k) : Nat) ∧ wr = w) (fun iv _ _ => (intOf iv + 1).toNat)
  case atStart => exact ⟨8, 7, rfl, by omega, by omega, by rw [List.drop_eq_nil_of_le (by have := Hn.out; omega)]; rfl, rfl⟩
  case round =>
    obtain ⟨k, z, rfl, hz, hk, rfl, rfl⟩ := hrel
    by_cases hk0 : k = 0
    · subst hk0
      have hzn : ¬ (0 : Int) ≤ z := by omega
      clear hz hk
      go_wp2
      go_ret
      exact ⟨rfl, rfl⟩
    · obtain ⟨j, hj⟩ : ∃ j, k = j + 1 := ⟨k - 1, by omega⟩
      subst hj
      obtain rfl : z = (j : Int) := by omega
      have hj0 : (0 : Int) ≤ j := by omega
      have hjn : (j : Int) < 8 := by omega
      obtain ⟨x, hx⟩ : ∃ x, l[j]? = some x := ⟨_, List.getElem?_eq_getElem (by have := Hn.out; omega)⟩
      have d := H.out j x hx
      have hst := hidOf (nmB_drop hx)
      have hb0 := hm.out j
      have hxb := x.toNat_lt
      have hm0 := nmB_drop hx
      generalize hq : nmB (l.drop (j + 1)) = q at *
      have hqI : (q : Int) * 256 ≤ 9223372036854775807 := by omega
      have hqI2 : (q : Int) * 256 + x.toNat ≤ 9223372036854775807 := by omega
      have hq0 : (0 : Int) ≤ q := by omega
      have hx0 : (0 : Int) ≤ x.toNat := by omega
      have hxI : (x.toNat : Int) < 256 := by omega
      have hw1 : IntKind.i64.wrap ((q : Int) * 256) = (q : Int) * 256 := by rw [IntKind.wrap_i64]; omega
      have hw2 : IntKind.i64.wrap ((q : Int) * 256 + x.toNat) = (q : Int) * 256 + x.toNat := by rw [IntKind.wrap_i64]; omega
      have Hz : Hid (((nmB (l.drop j) : Nat) : Int) = (q : Int) * 256 + x.toNat) := hidOf (by rw [hm0]; omega)
      clear hx hz hk hm0 hb0 hxb hq
      go_wp2
      refine ⟨⟨j, (j : Int) - 1, rfl, rfl, by omega, by rw [Hz.out], trivial⟩, by simp [intOf]⟩
set_option maxRecDepth 8000 in
set_option maxHeartbeats 1000000 in
theorem taken_4 (B : Nat) (b off c : Nat) (l : List UInt8) (w : World) (h : BAt w b off l) (hn : 4 = l.length) :
    Calls Try.prog 32 #[.slice (some ⟨b, off, none⟩) 4 c] w fun e w' => e = .returned (.int .i64 (nmB l : Nat)) ∧ w' = w := by
  have H := hidOf h
  have hs : nmB l ≤ 9223372036854775807 := by
    have := nmB_lt l
    rw [← hn] at this
    omega
  have hm := hidOf (fun i => Nat.le_trans (nmB_mono l i) hs)
  have Hn := hidOf hn
  clear h hs hn
  go_enter Try.func32, Try.ntmps32
  go_wp2
  go_loopw [4, 3] (fun iv xv wr => ∃ (k : Nat) (z : Int), iv = .int .i64 z ∧ z = (k : Int) - 1 ∧ k ≤ 4 ∧ xv = .int .i64 (nmB (l.drop k) : Nat) ∧ wr = w) (fun iv _ _ => (intOf iv + 1).toNat)
  case atStart => exact ⟨4, 3, rfl, by omega, by omega, by rw [List.drop_eq_nil_of_le (by have := Hn.out; omega)]; rfl, rfl⟩
  case round =>
    obtain ⟨k, z, rfl, hz, hk, rfl, rfl⟩ := hrel
    by_cases hk0 : k = 0
    · subst hk0
      have hzn : ¬ (0 : Int) ≤ z := by omega
      clear hz hk
      go_wp2
      go_ret
      exact ⟨rfl, rfl⟩
    · obtain ⟨j, hj⟩ : ∃ j, k = j + 1 := ⟨k - 1, by omega⟩
      subst hj
      obtain rfl : z = (j : Int) := by omega
      have hj0 : (0 : Int) ≤ j := by omega
      have hjn : (j : Int) < 4 := by omega
      obtain ⟨x, hx⟩ : ∃ x, l[j]? = some x := ⟨_, List.getElem?_eq_getElem (by have := Hn.out; omega)⟩
      have d := H.out j x hx
      have hst := hidOf (nmB_drop hx)
      have hb0 := hm.out j
      have hxb := x.toNat_lt
      have hm0 := nmB_drop hx
      generalize hq : nmB (l.drop (j + 1)) = q at *
      have hqI : (q : Int) * 256 ≤ 9223372036854775807 := by omega
      have hqI2 : (q : Int) * 256 + x.toNat ≤ 9223372036854775807 := by omega
      have hq0 : (0 : Int) ≤ q := by omega
      have hx0 : (0 : Int) ≤ x.toNat := by omega
      have hxI : (x.toNat : Int) < 256 := by omega
      have hw1 : IntKind.i64.wrap ((q : Int) * 256) = (q : Int) * 256 := by rw [IntKind.wrap_i64]; omega
      have hw2 : IntKind.i64.wrap ((q : Int) * 256 + x.toNat) = (q : Int) * 256 + x.toNat := by rw [IntKind.wrap_i64]; omega
      have Hz : Hid (((nmB (l.drop j) : Nat) : Int) = (q : Int) * 256 + x.toNat) := hidOf (by rw [hm0]; omega)
      clear hx hz hk hm0 hb0 hxb hq
      go_wp2
      refine ⟨⟨j, (j : Int) - 1, rfl, rfl, by omega, by rw [Hz.out], trivial⟩, by simp [intOf]⟩
theorem taken_big8 (b off c : Nat) (l : List UInt8) (w : World) (h : BAt w b off l) (x : UInt8) (hx : l[7]? = some x) (hx7 : 128 ≤ x.toNat) :
    Calls Try.prog 32 #[.slice (some ⟨b, off, none⟩) 8 c] w fun e w' => e = .returned (.int .i64 9223372036854775807) ∧ w' = w := by
  have d7 := h 7 x hx
  have hxI : (128 : Int) ≤ x.toNat := by omega
  clear hx hx7 h
  go_enter Try.func32, Try.ntmps32
  go_wp2
  go_ret
  exact ⟨rfl, rfl⟩
end Go.Proofs.Ytoobdcjkhphlcaa
