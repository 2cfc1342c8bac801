import Derived.Test.YtbdmbicnlfcclaaSwc
namespace Go.Proofs.Ytbdmbicnlfcclaa
open Go.RowKit
set_option linter.unusedVariables false
set_option linter.unusedSimpArgs false
/-- the reference's number of bytes: -1 where it is no int -/
def toldP (l : List UInt8) : Int := if 9223372036854775808 ≤ nmB l then -1 else (nmB l : Nat)
theorem nmB_step {l : List UInt8} {k : Nat} {x : UInt8} (h : l[k]? = some x) : nmB (l.drop k) = nmB (l.drop (k + 1)) * 256 + x.toNat := by
  obtain ⟨hi, hx⟩ := List.getElem?_eq_some_iff.1 h
  rw [List.drop_eq_getElem_cons hi, hx]
  simp only [nmB]
  omega
set_option maxRecDepth 8000 in
set_option maxHeartbeats 1000000 in
theorem told_any (B : Nat) (a : Option Addr) (c : Nat) (l : List UInt8) (w : World) (h : RestAt B w a l) (hl : l.length ≤ 8) :
    Calls Try.prog 52 #[.slice a l.length c] w fun e w' => e = .returned (.int .i64 (toldP l)) ∧ w' = w := by
  have H := hidOf h
  have hb : ∀ k, nmB (l.drop k) < 18446744073709551616 := fun k => by
    have h1 := nmB_lt (l.drop k)
    have h2 : 256 ^ (l.drop k).length ≤ 256 ^ 8 := Nat.pow_le_pow_right (by omega) (by rw [List.length_drop]; omega)
    omega
  have HB := hidOf hb
  clear h hb
  go_enter Try.func52, Try.ntmps52
  go_wp2
  go_loopw [4, 3] (fun iv xv wr => ∃ k x : Nat, iv = .int .i64 ((k : Int) - 1) ∧ xv = .int .u64 (x : Int) ∧ k ≤ l.length ∧ Hid (x = nmB (l.drop k)) ∧ wr = w) (fun iv _ _ => (intOf iv + 1).toNat)
  case atStart => exact ⟨l.length, 0, by first | rfl | simp, rfl, Nat.le_refl _, hidOf (by rw [List.drop_length]; rfl), rfl⟩
  case round =>
    obtain ⟨k, x, rfl, rfl, hk, HX, rfl⟩ := hrel
    by_cases hk0 : 0 < k
    · obtain ⟨j, rfl⟩ : ∃ j, k = j + 1 := ⟨k - 1, by omega⟩
      have hjI : ((j + 1 : Nat) : Int) - 1 = j := by omega
      have h0 : (0 : Int) ≤ j := by omega
      have hlt : (j : Int) < l.length := by omega
      obtain ⟨y, hy⟩ : ∃ y, l[j]? = some y := ⟨_, List.getElem?_eq_getElem (by omega)⟩
      obtain ⟨b, off, _, rfl, dd⟩ := H.out.resolve_left (fun e => by rw [e] at hk; simp at hk)
      have d := dd j y hy
      have Hst := hidOf (nmB_step hy)
      have hx1 : x * 256 + y.toNat < 18446744073709551616 := by rw [HX.out, ← Hst.out]; exact HB.out j
      have hx2 : x * 256 < 18446744073709551616 := by omega
      have hyb := y.toNat_lt
      clear dd hy
      rw [hjI]
      go_wp2
      refine ⟨⟨j, x * 256 + y.toNat, by first | rfl | simp, by first | rfl | simp, by omega, ?_, trivial⟩, ?_⟩
      · show _ = _
        rw [HX.out, Hst.out]
      · first | (simp [intOf]; done) | (simp [intOf]; omega)
    · obtain rfl : k = 0 := by omega
      have hx : x = nmB l := HX.out
      by_cases hbig : 9223372036854775808 ≤ x
      · have hbI : (9223372036854775808 : Int) ≤ x := by omega
        have e : toldP l = -1 := by unfold toldP; rw [← hx, if_pos hbig]
        have HE := hidOf e
        clear e hx HX
        go_wp2
        go_ret
        exact ⟨by rw [HE.out]; rfl, rfl⟩
      · have hbI : ¬ (9223372036854775808 : Int) ≤ x := by omega
        have hxI : (x : Int) ≤ 9223372036854775807 := by omega
        have e : toldP l = x := by unfold toldP; rw [← hx, if_neg hbig]
        have HE := hidOf e
        clear e hx HX
        go_wp2
        go_ret
        exact ⟨by rw [HE.out]; rfl, rfl⟩
end Go.Proofs.Ytbdmbicnlfcclaa
