import Derived.Test.YtcalbhcgimipeaaEni
import Derived.Laws.Bits64b
namespace Go.Proofs.Ytcalbhcgimipeaa
open Go.RowKit
set_option linter.unusedVariables false
set_option linter.unusedSimpArgs false
theorem and255 (x : Int) : bits BinOp.and IntKind.i64 x 255 = x % 256 := by
  show IntKind.i64.wrap ((BitVec.ofInt 64 x &&& BitVec.ofInt 64 255).toNat : Int) = _
  have h2 : (BitVec.ofInt 64 255).toNat = 2 ^ 8 - 1 := by decide
  rw [BitVec.toNat_and, h2, Nat.and_two_pow_sub_one_eq_mod, BitVec.toNat_ofInt, IntKind.wrap_i64]
  omega
theorem xor8 (a z : Nat) (ha : a < 256) (hz : z < 256) : bits BinOp.xor IntKind.u8 (a : Int) (z : Int) = ((a ^^^ z : Nat) : Int) := by
  have hx : a ^^^ z < 2 ^ 8 := Nat.xor_lt_two_pow (by omega) (by omega)
  have h1 : (BitVec.ofInt 8 (a : Int)).toNat = a := by
    rw [BitVec.ofInt_natCast, BitVec.toNat_ofNat]; exact Nat.mod_eq_of_lt (by omega)
  have h2 : (BitVec.ofInt 8 (z : Int)).toNat = z := by
    rw [BitVec.ofInt_natCast, BitVec.toNat_ofNat]; exact Nat.mod_eq_of_lt (by omega)
  show IntKind.u8.wrap ((BitVec.ofInt 8 (a : Int) ^^^ BitVec.ofInt 8 (z : Int)).toNat : Int) = _
  rw [BitVec.toNat_xor, h1, h2, IntKind.wrap_u8]
  omega
/-- a byte, turned -/
theorem turn_byte (c : UInt8) (x : Int) (hx : ¬ x % 256 = 0) : ∃ y : UInt8, ¬ y = c ∧ bits BinOp.xor IntKind.u8 (c.toNat : Int) (x % 256) = (y.toNat : Int) := by
  obtain ⟨z, hz⟩ : ∃ z : Nat, x % 256 = z := ⟨(x % 256).toNat, by omega⟩
  have hc := c.toNat_lt
  have hzl : z < 256 := by omega
  have hx2 : c.toNat ^^^ z < 2 ^ 8 := Nat.xor_lt_two_pow (by omega) (by omega)
  refine ⟨UInt8.ofNat (c.toNat ^^^ z), ?_, ?_⟩
  · intro e
    have h1 := congrArg UInt8.toNat e
    rw [UInt8.toNat_ofNat_of_lt' (by simpa [UInt8.size] using hx2)] at h1
    have h3 : c.toNat ^^^ (c.toNat ^^^ z) = z := by rw [← Nat.xor_assoc, Nat.xor_self, Nat.zero_xor]
    rw [h1, Nat.xor_self] at h3
    omega
  · rw [hz, xor8 c.toNat z (by omega) hzl, UInt8.toNat_ofNat_of_lt' (by simpa [UInt8.size] using hx2)]
theorem OwB.setB {B g c n : Nat} {l : List UInt8} {w : World} (h : OwB B (.slice (some ⟨g, 0, none⟩) n c) l w) (k : Nat) (y : UInt8) : OwB B (.slice (some ⟨g, 0, none⟩) n c) (l.set k y) (w.setCell ⟨g, k, none⟩ (.int .u8 (y.toNat : Int))) ∧ w.frozen? ⟨g, k, none⟩ = false ∧ B ≤ g := by
  rcases h.2 with ⟨hv, _⟩ | ⟨g', cap, cur, hv, hb, hg, hc, hm, hs, ht⟩
  · cases hv
  · simp only [Value.slice.injEq, Option.some.injEq, Addr.mk.injEq] at hv
    obtain ⟨⟨rfl, _⟩, rfl, rfl⟩ := hv
    refine ⟨⟨by simp [Lib.byteCells], .inr ⟨g, c, cur.setIfInBounds k (.int .u8 (y.toNat : Int)), by simp, hb, ?_, by simpa using hc, hm, by simpa using hs, ?_⟩⟩, by simp [World.frozen?, hg], hb⟩
    · simp [World.setCell, Array.getElem?_modify, hg]
    · rw [Array.toList_setIfInBounds, List.take_set, List.length_set, ht]
      simp [Lib.byteCells, List.map_set]
set_option maxRecDepth 8000 in
set_option maxHeartbeats 1000000 in
theorem turn_not (W : World) (a : Option Addr) (cap : Nat) (L : List SV) (h : SIn W a cap L) (at_ x : Int) (hok : writeOk (secs L) = false) : Calls Try.prog 7 #[.slice a L.length cap, .int .i64 at_, .int .i64 x] W fun e W' => e = .returned (.bool true) ∧ Below W.heap.size W W' := by
  have CA := hidOf (awake9 W)
  have CC := hidOf (fun wx (o : Out W wx) => h.copy o)
  have CW := hidOf (h.not hok)
  clear h hok
  go_enter Try.func7, Try.ntmps7
  go_wp2_with (first | (go_at_call 9; refine (CA.out).mono ?_; rintro e w1 ⟨rfl, hO⟩; have HO := hidOf hO; clear hO) | (go_at_call 13; refine (CC.out _ HO.out).mono ?_; rintro e w2 ⟨a2, c2, Ls, rfl, hS, hs⟩; have HS := hidOf hS; have Hs := hidOf hs; have HO2 := hidOf (HO.out.trans hS.out); clear hS hs) | (go_at_call 12; refine (CW.out _ _ _ _ _ HS.out Hs.out).mono ?_; rintro e w3 ⟨rfl, hO⟩; have HO3 := hidOf (HO2.out.trans hO); clear hO) | (go_at_call 14; refine (num_any _ _).mono ?_; rintro e w4 ⟨rfl, hw⟩; subst hw))
  all_goals
    go_ret
    first | exact ⟨rfl, HO3.out⟩ | exact ⟨rfl, HO3.out.drew⟩
set_option maxRecDepth 8000 in
set_option maxHeartbeats 1000000 in
theorem turn_out (W : World) (a : Option Addr) (cap : Nat) (L : List SV) (h : SIn W a cap L) (at_ x : Int) (hok : writeOk (secs L) = true) (hat : at_ < 0 ∨ (writeB (secs L)).length ≤ at_ ∨ (0 ≤ at_ ∧ at_ < (writeB (secs L)).length ∧ x % 256 = 0)) : Calls Try.prog 7 #[.slice a L.length cap, .int .i64 at_, .int .i64 x] W fun e W' => e = .returned (.bool true) ∧ Below W.heap.size W W' := by
  have CA := hidOf (awake9 W)
  have CC := hidOf (fun wx (o : Out W wx) => h.copy o)
  have CW := hidOf (h.ok hok)
  have hz := write_size (secs L) hok (by have := h.sum; omega)
  obtain ⟨b, hb⟩ : ∃ b, b = writeB (secs L) := ⟨_, rfl⟩
  rw [← hb] at CW hz hat
  clear h hok hb
  rcases hat with hat | hat | ⟨hat0, hat1, hx⟩
  · go_enter Try.func7, Try.ntmps7
    go_wp2_with (first | (go_at_call 9; refine (CA.out).mono ?_; rintro e w1 ⟨rfl, hO⟩; have HO := hidOf hO; clear hO) | (go_at_call 13; refine (CC.out _ HO.out).mono ?_; rintro e w2 ⟨a2, c2, Ls, rfl, hS, hs⟩; have HS := hidOf hS; have Hs := hidOf hs; have HO2 := hidOf (HO.out.trans hS.out); clear hS hs) | (go_at_call 12; refine (CW.out _ _ _ _ _ HS.out Hs.out).mono ?_; rintro e w3 ⟨g3, c3, rfl, hB, hO⟩; have HO3 := hidOf (HO2.out.trans hO); clear hB hO) | (go_at_call 14; refine (num_any _ _).mono ?_; rintro e w4 ⟨rfl, hw⟩; subst hw))
    all_goals
      go_ret
      first | exact ⟨rfl, HO3.out⟩ | exact ⟨rfl, HO3.out.drew⟩
  · have hat0 : ¬ at_ < 0 := by omega
    have hge : (b.length : Int) ≤ at_ := hat
    go_enter Try.func7, Try.ntmps7
    go_wp2_with (first | (go_at_call 9; refine (CA.out).mono ?_; rintro e w1 ⟨rfl, hO⟩; have HO := hidOf hO; clear hO) | (go_at_call 13; refine (CC.out _ HO.out).mono ?_; rintro e w2 ⟨a2, c2, Ls, rfl, hS, hs⟩; have HS := hidOf hS; have Hs := hidOf hs; have HO2 := hidOf (HO.out.trans hS.out); clear hS hs) | (go_at_call 12; refine (CW.out _ _ _ _ _ HS.out Hs.out).mono ?_; rintro e w3 ⟨g3, c3, rfl, hB, hO⟩; have HO3 := hidOf (HO2.out.trans hO); clear hB hO) | (go_at_call 14; refine (num_any _ _).mono ?_; rintro e w4 ⟨rfl, hw⟩; subst hw))
    all_goals
      go_ret
      first | exact ⟨rfl, HO3.out⟩ | exact ⟨rfl, HO3.out.drew⟩
  · have hn0 : ¬ at_ < 0 := by omega
    have hn1 : ¬ (b.length : Int) ≤ at_ := by omega
    have hand : bits BinOp.and IntKind.i64 x 255 = 0 := by rw [and255]; exact hx
    clear hx
    go_enter Try.func7, Try.ntmps7
    go_wp2_with (first | (go_at_call 9; refine (CA.out).mono ?_; rintro e w1 ⟨rfl, hO⟩; have HO := hidOf hO; clear hO) | (go_at_call 13; refine (CC.out _ HO.out).mono ?_; rintro e w2 ⟨a2, c2, Ls, rfl, hS, hs⟩; have HS := hidOf hS; have Hs := hidOf hs; have HO2 := hidOf (HO.out.trans hS.out); clear hS hs) | (go_at_call 12; refine (CW.out _ _ _ _ _ HS.out Hs.out).mono ?_; rintro e w3 ⟨g3, c3, rfl, hB, hO⟩; have HO3 := hidOf (HO2.out.trans hO); clear hB hO) | (go_at_call 14; refine (num_any _ _).mono ?_; rintro e w4 ⟨rfl, hw⟩; subst hw))
    all_goals
      go_ret
      first | exact ⟨rfl, HO3.out⟩ | exact ⟨rfl, HO3.out.drew⟩
end Go.Proofs.Ytcalbhcgimipeaa
