import Derived.Test.YtcjhgihpahnnoabGreatDoorHf
import Derived.Test.YtcjhgihpahnnoabGreatDoorGq
namespace Go.Proofs.YtcjhgihpahnnoabGreatDoor
open Go.RowKit
set_option linter.unusedVariables false
set_option linter.unusedSimpArgs false
def lowB (k : Nat) : UInt8 := UInt8.ofNat (if k < 10 then 48 + k else 87 + k)
def upB (k : Nat) : UInt8 := UInt8.ofNat (if k < 10 then 48 + k else 55 + k)
theorem low_ok : ∀ k : Fin 16, hexU (lowB k.val) = true ∧ hexD (bI (lowB k.val)) = (k.val : Int) := by decide +kernel
theorem up_ok : ∀ k : Fin 16, hexU (upB k.val) = true ∧ hexD (bI (upB k.val)) = (k.val : Int) := by decide +kernel
/-- the digits so far -/
def HInv (X y : Int) (l : List UInt8) : Prop := 0 ≤ y ∧ l.all hexU = true ∧ 0 ≤ hexV 0 l ∧ y * 16 ^ l.length + hexV 0 l = X ∧ (l = [] ∨ 1 ≤ y)
theorem pow_le (n : Nat) : (1 : Int) ≤ 16 ^ n := by
  induction n with
  | zero => decide
  | succ n ih => rw [Int.pow_succ]; omega
theorem pow_16 (n : Nat) (h : 16 ≤ n) : (18446744073709551616 : Int) ≤ 16 ^ n := by
  induction n with
  | zero => omega
  | succ n ih =>
    by_cases hn : 16 ≤ n
    · have := ih hn
      rw [Int.pow_succ]
      omega
    · have : n = 15 := by omega
      subst this
      decide
theorem HInv.len {X y : Int} {l : List UInt8} (h : HInv X y l) (hX : X < 18446744073709551616) : l.length ≤ 15 := by
  obtain ⟨h0, _, h2, h3, h4⟩ := h
  rcases h4 with rfl | h4
  · simp
  · by_cases hn : 16 ≤ l.length
    · have := pow_16 l.length hn
      have h5 : (16 : Int) ^ l.length ≤ y * 16 ^ l.length := by
        have := Int.mul_le_mul_of_nonneg_right h4 (show (0 : Int) ≤ 16 ^ l.length by have := pow_le l.length; omega)
        rwa [Int.one_mul] at this
      omega
    · omega
theorem HInv.le {X y : Int} {l : List UInt8} (h : HInv X y l) : y ≤ X := by
  obtain ⟨h0, _, h2, h3, _⟩ := h
  have := Int.mul_le_mul_of_nonneg_left (pow_le l.length) h0
  rw [Int.mul_one] at this
  omega
theorem HInv.step {X y : Int} {l : List UInt8} (h : HInv X y l) (hy : 15 < y) (k : Nat) (hk : k < 16) (hd : y % 16 = (k : Int)) : HInv X (y / 16) (lowB k :: l) := by
  obtain ⟨h0, h1, h2, h3, _⟩ := h
  obtain ⟨a, b⟩ := low_ok ⟨k, hk⟩
  simp only at a b
  have hp := pow_le l.length
  have e : hexV 0 (lowB k :: l) = (k : Int) * 16 ^ l.length + hexV 0 l := by
    show hexV (0 * 16 + hexD (bI (lowB k))) l = _
    rw [b, hexV_cons 0 l, Int.zero_mul, Int.zero_add]
  have hkp : 0 ≤ (k : Int) * 16 ^ l.length := Int.mul_nonneg (by omega) (by omega)
  refine ⟨by omega, by rw [List.all_cons, a, h1]; rfl, by rw [e]; omega, ?_, .inr (by omega)⟩
  rw [e, List.length_cons, Int.pow_succ, ← h3, show y / 16 * (16 ^ l.length * 16) = (y / 16 * 16) * 16 ^ l.length from by rw [Int.mul_comm (16 ^ l.length) 16, Int.mul_assoc], ← Int.add_assoc, ← Int.add_mul]
  congr 2
  omega
theorem HInv.done {X y : Int} {l : List UInt8} (h : HInv X y l) (hX : X < 18446744073709551616) (k : Nat) (hk : k < 16) (hd : y = (k : Int)) : HexOf X (upB k :: l) := by
  have hl := h.len hX
  obtain ⟨h0, h1, h2, h3, _⟩ := h
  obtain ⟨a, b⟩ := up_ok ⟨k, hk⟩
  simp only at a b
  refine ⟨by simp, by rw [List.all_cons, a, h1]; rfl, by simp; omega, ?_⟩
  show hexV (0 * 16 + hexD (bI (upB k))) l = _
  rw [b, hexV_cons 0 l, Int.zero_mul, Int.zero_add, ← hd, h3]
theorem low_ext : ∀ k : Fin 16, (⟨#[48, 49, 50, 51, 52, 53, 54, 55, 56, 57, 97, 98, 99, 100, 101, 102]⟩ : ByteArray).extract k.val (k.val + 1) = ⟨[lowB k.val].toArray⟩ := by decide +kernel
theorem up_ext : ∀ k : Fin 16, (⟨#[48, 49, 50, 51, 52, 53, 54, 55, 56, 57, 65, 66, 67, 68, 69, 70]⟩ : ByteArray).extract k.val (k.val + 1) = ⟨[upB k.val].toArray⟩ := by decide +kernel
set_option maxRecDepth 20000 in
set_option maxHeartbeats 1600000 in
theorem hexadecimal_any (X : Int) (h0 : 0 ≤ X) (h1 : X < 18446744073709551616) (w : World) : Calls Tryz.prog 6 #[.int .u64 X] w fun e w' => (∃ s, HexOf X s ∧ e = .returned (.string ⟨(hxT s).toArray⟩)) ∧ Out w w' := by
  go_enter Tryz.func6, Tryz.ntmps6
  go_wp2
  go_loopw [0, 3] (fun xv sv wr => ∃ (y : Int) (l : List UInt8), xv = .int .u64 y ∧ sv = .string ⟨l.toArray⟩ ∧ Hid (HInv X y l) ∧ Hid (Out w wr)) (fun xv _ _ => (intOf xv).toNat)
  case atStart => exact ⟨X, [], rfl, rfl, ⟨h0, rfl, by decide, by simp [hexV], .inl rfl⟩, Out.refl w⟩
  case round =>
    obtain ⟨y, l, rfl, rfl, HI, Ho⟩ := hrel
    have hy0 := HI.out.1
    have hyX : y < 18446744073709551616 := by have := HI.out.le; omega
    have hlen := HI.out.len h1
    by_cases hy : 15 < y
    · obtain ⟨k, hk, hd⟩ : ∃ k : Nat, k < 16 ∧ y % 16 = (k : Int) := ⟨(y % 16).toNat, by omega, by omega⟩
      have hkI : (k : Int) < 16 := by omega
      have HN := hidOf (HI.out.step hy k hk hd)
      obtain ⟨b, hb⟩ : ∃ b, b = lowB k := ⟨_, rfl⟩
      rw [← hb] at HN
      have hext : (⟨#[48, 49, 50, 51, 52, 53, 54, 55, 56, 57, 97, 98, 99, 100, 101, 102]⟩ : ByteArray).extract k (k + 1) = ⟨#[b]⟩ := by rw [hb]; exact low_ext ⟨k, hk⟩
      obtain ⟨l', hl'⟩ : ∃ l', l' = [b] ++ l := ⟨_, rfl⟩
      have a1 : ∀ w, (Op.stringOp .add ⟨#[b]⟩ ⟨l.toArray⟩).run Tryz.prog w = .ok (.string ⟨l'.toArray⟩) w := add_lists [b] l l' hl' (by simp; omega)
      have HN' : Hid (HInv X (y / 16) l') := by rw [hl']; exact HN
      clear hb hl' HN hlen
      go_wp2
      go_roundw
      case rel => exact ⟨y / 16, l', rfl, rfl, HN', Ho⟩
      case measure => simp [intOf]; omega
    · obtain ⟨k, hk, hd⟩ : ∃ k : Nat, k < 16 ∧ y = (k : Int) := ⟨y.toNat, by omega, by omega⟩
      have HD := hidOf (HI.out.done h1 k hk hd)
      subst hd
      have hkI : (k : Int) < 16 := by omega
      obtain ⟨b, hb⟩ : ∃ b, b = upB k := ⟨_, rfl⟩
      rw [← hb] at HD
      have hext : (⟨#[48, 49, 50, 51, 52, 53, 54, 55, 56, 57, 65, 66, 67, 68, 69, 70]⟩ : ByteArray).extract k (k + 1) = ⟨#[b]⟩ := by rw [hb]; exact up_ext ⟨k, hk⟩
      obtain ⟨l', hl'⟩ : ∃ l', l' = [48, 120] ++ [b] := ⟨_, rfl⟩
      obtain ⟨l2, hl2⟩ : ∃ l2, l2 = l' ++ l := ⟨_, rfl⟩
      have a1 : ∀ w, (Op.stringOp .add ⟨#[48, 120]⟩ ⟨#[b]⟩).run Tryz.prog w = .ok (.string ⟨l'.toArray⟩) w := add_lists [48, 120] [b] l' hl' (by simp)
      have a2 : ∀ w, (Op.stringOp .add ⟨l'.toArray⟩ ⟨l.toArray⟩).run Tryz.prog w = .ok (.string ⟨l2.toArray⟩) w := add_lists l' l l2 hl2 (by rw [hl']; simp; omega)
      have HE : Hid (l2 = hxT (b :: l)) := by rw [hl2, hl']; rfl
      clear hb hl' hl2 hlen
      go_wp2
      go_ret
      exact ⟨⟨_, HD.out, by rw [← HE.out]; rfl⟩, Ho.out⟩
end Go.Proofs.YtcjhgihpahnnoabGreatDoor
