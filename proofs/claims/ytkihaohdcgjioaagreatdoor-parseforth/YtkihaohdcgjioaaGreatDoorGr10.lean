import Derived.Test.YtkihaohdcgjioaaGreatDoorGr05
import Derived.Lib.ConvBytes
import Derived.Lib.AtoiAllMem
namespace Go.Proofs.YtkihaohdcgjioaaGreatDoor
open Go.RowKit
set_option linter.unusedVariables false
set_option linter.unusedSimpArgs false
def hexD (c : Int) : Int := if c ≤ 57 then c - 48 else if 97 ≤ c then c - 87 else c - 55
theorem lower_any (c : Int) (w : World) : Calls Tryz.prog 262 #[.int .u8 c] w fun e w' => e = .returned (.int .u8 (bits .or .u8 c 32)) ∧ w = w' := by
  go_enter Tryz.func262, Tryz.ntmps262
  go_wp2
  go_ret
  exact ⟨rfl, rfl⟩
theorem low_hex : ∀ n : Fin 256, hexP (n.val : Int) = true → digP (n.val : Int) = false → 97 ≤ bits .or .u8 (n.val : Int) 32 ∧ bits .or .u8 (n.val : Int) 32 ≤ 102 ∧ bits .or .u8 (n.val : Int) 32 - 87 = hexD (n.val : Int) := by decide +kernel
theorem low65 : ∀ n : Fin 256, hexP (n.val : Int) = true → digP (n.val : Int) = false → 65 ≤ (n.val : Int) := by decide +kernel
theorem dig_hex : ∀ n : Fin 256, digP (n.val : Int) = true → hexD (n.val : Int) = (n.val : Int) - 48 ∧ 48 ≤ (n.val : Int) ∧ (n.val : Int) ≤ 57 := by decide +kernel
theorem not95 : ∀ n : Fin 256, hexP (n.val : Int) = true → ((n.val : Int) == 95) = false := by decide +kernel
def hexV : Int → List UInt8 → Int
  | a, [] => a
  | a, b :: l => hexV (a * 16 + hexD (bI b)) l
def cap16 (k : Nat) : Int := 16 ^ k
theorem cap16_le : ∀ k, k ≤ 15 → cap16 k ≤ 1152921504606846976 := by decide
theorem cap16_succ (k : Nat) : cap16 (k + 1) = cap16 k * 16 := Int.pow_succ _ _
theorem hexD_rng : ∀ n : Fin 256, hexP (n.val : Int) = true → 0 ≤ hexD (n.val : Int) ∧ hexD (n.val : Int) ≤ 15 := by decide +kernel
theorem hexV_snoc (a : Int) (l : List UInt8) (b : UInt8) : hexV a (l ++ [b]) = hexV a l * 16 + hexD (bI b) := by
  induction l generalizing a with
  | nil => rfl
  | cons x l ih => exact ih _
set_option maxRecDepth 20000 in
set_option maxHeartbeats 4000000 in
theorem parse16 (t : ByteArray) (hne : t.size ≠ 0) (h16 : t.size ≤ 16) (hall : ∀ b ∈ t.data.toList, hexP (bI b) = true) (w : World) :
    Calls Tryz.prog 252 #[.string t, .int .i64 16, .int .i64 64] w fun e w' => e = .returned (.tuple #[.int .u64 (hexV 0 t.data.toList), .nilIface]) ∧ w' = Lib.bytesWorld w 5 t := by
  obtain ⟨hie, hne'⟩ := isEmpty_of hne
  have hcv := Lib.run_convert_string_bytes (P := Tryz.prog) w 9 24 5 t (u := .string) Tryz.underlying9 Tryz.underlying24 Tryz.underlying5
  have HB : Hid (∀ j, j < t.size → (Lib.bytesWorld w 5 t).cell? ⟨w.heap.size, j, none⟩ = some (.int .u8 (t.data.toList.getD j 0).toNat)) := fun j hj => Lib.bytesWorld_cell w 5 t j hj
  have HA := hidOf hall
  clear hall
  obtain ⟨W1, hW1⟩ : ∃ W1, W1 = Lib.bytesWorld w 5 t := ⟨_, rfl⟩
  rw [← hW1] at hcv HB ⊢
  clear hW1
  obtain ⟨bs, hL⟩ : ∃ bs, bs = t.data.toList := ⟨_, rfl⟩
  have hLn : bs.length = t.size := by rw [hL]; rfl
  rw [← hL] at HB HA ⊢
  clear hL
  have hmv : IntKind.u64.wrap (IntKind.u64.wrap 18446744073709551616 - 1) = 18446744073709551615 := by
    rw [IntKind.wrap_u64, IntKind.wrap_u64]; decide
  go_enter Tryz.func252, Tryz.ntmps252
  go_wp2
  go_loop [12, 13, 101] (fun vu vn vi => ∃ (k : Nat) (a : Int), vu = .bool false ∧ vn = .int .u64 a ∧ vi = .int .i64 k ∧ k ≤ t.size ∧ Hid (0 ≤ a ∧ a < cap16 k ∧ a = hexV 0 (bs.take k))) (fun _ _ vi => t.size - (intOf vi).toNat)
  case atStart => exact ⟨0, 0, rfl, rfl, rfl, by omega, by omega, by decide, rfl⟩
  case round =>
    obtain ⟨k, a, rfl, rfl, rfl, hk, hh⟩ := hrel
    by_cases hkn : k < t.size
    · have hc := HB.out k hkn
      have hget : bs[k]? = some (bs[k]'(by omega)) := List.getElem?_eq_getElem (by omega)
      have hgd : bs.getD k 0 = bs[k]'(by omega) := by simp [List.getD, hget]
      have hx := HA.out _ (List.getElem_mem (show k < bs.length by omega))
      rw [hgd] at hc
      have htk : bs.take (k + 1) = bs.take k ++ [bs[k]'(by omega)] := by rw [List.take_add_one, hget]; rfl
      have hcap := cap16_le k (by omega)
      have hcs := cap16_succ k
      obtain ⟨a0, a1, a2⟩ := hh.out
      have hv := hexV_snoc 0 (bs.take k) (bs[k]'(by omega))
      rw [← htk, ← a2] at hv
      generalize bs[k]'(by omega) = cb at hc hx hv
      have h256 : cb.toNat < 256 := cb.toNat_lt
      have hr := hexD_rng ⟨cb.toNat, h256⟩ hx
      have h95 := not95 ⟨cb.toNat, h256⟩ hx
      have hlw := low_hex ⟨cb.toNat, h256⟩ hx
      have hdg := dig_hex ⟨cb.toNat, h256⟩
      have h65 := low65 ⟨cb.toNat, h256⟩ hx
      simp only at hr h95 hlw hdg h65
      have hbI : bI cb = (cb.toNat : Int) := rfl
      rw [hbI] at hv
      generalize hD : hexD (cb.toNat : Int) = dd at *
      have HN : Hid (0 ≤ a * 16 + dd ∧ a * 16 + dd < cap16 (k + 1) ∧ a * 16 + dd = hexV 0 (bs.take (k + 1))) := ⟨by omega, by omega, hv.symm⟩
      have icut : a < 1152921504606846976 := by omega
      have iov : a * 16 + dd < 18446744073709551616 := by omega
      have i0 : 0 ≤ a * 16 := by omega
      obtain ⟨r0, r1⟩ := hr
      clear hh a1 a2 hv hcap hcs hget hgd htk hD hbI hx HB
      cases hdig : digP (cb.toNat : Int)
      · obtain ⟨l0, l1, l2⟩ := hlw hdig
        have c65 := h65 hdig
        have c57 : ¬ (cb.toNat : Int) ≤ 57 := by omega
        have CL : Hid (∀ wx : World, Calls Tryz.prog 262 #[.int .u8 (cb.toNat : Int)] wx fun e w' => e = .returned (.int .u8 (dd + 87)) ∧ wx = w') := fun wx => by
          have h := lower_any (cb.toNat : Int) wx
          rw [show bits .or .u8 (cb.toNat : Int) 32 = dd + 87 by omega] at h
          exact h
        have q0 : 97 ≤ dd + 87 := by omega
        have q1 : dd + 87 ≤ 122 := by omega
        have q2 : 10 ≤ dd := by omega
        clear hlw hdg hdig l0 l1 l2 h65
        go_wp2_with (go_at_call 262; refine (CL.out _).mono ?_; rintro e w3 ⟨rfl, rfl⟩)
        exact ⟨⟨k + 1, a * 16 + dd, rfl, by congr 1; omega, by simp, by omega, HN⟩, by simp [intOf]; omega⟩
      · obtain ⟨e1, e2, e3⟩ := hdg hdig
        clear hlw hdg hdig h65
        subst e1
        go_wp2
        exact ⟨⟨k + 1, _, rfl, rfl, by simp, by omega, HN⟩, by simp [intOf]; omega⟩
    · obtain rfl : k = t.size := by omega
      obtain ⟨a0, a1, a2⟩ := hh.out
      have e1 : bs.take t.size = bs := List.take_of_length_le (by omega)
      rw [e1] at a2
      have A2 := hidOf a2
      clear hh a2 a1
      go_wp2
      go_ret2
      exact ⟨by rw [A2.out]; rfl, rfl⟩
end Go.Proofs.YtkihaohdcgjioaaGreatDoor
namespace Go.Proofs.YtkihaohdcgjioaaGreatDoor.Wo
open Go.RowKit
set_option linter.unusedVariables false
set_option linter.unusedSimpArgs false
attribute [local go_sem] IntKind.wrap_u16 IntKind.wrap_u32' IntKind.wrap_u64 IntKind.wrap_u8'
end Go.Proofs.YtkihaohdcgjioaaGreatDoor.Wo
