import Derived.Test.YtoobdcjkhphlcaaRed
namespace Go.Proofs.Ytoobdcjkhphlcaa
open Go.RowKit
set_option linter.unusedVariables false
set_option linter.unusedSimpArgs false
theorem take_any (B : Nat) (a : Option Addr) (c wd : Nat) (l : List UInt8) (w : World) (h : RestAt B w a l) (hw : wd ≤ l.length) (h8 : wd ≤ 8) :
    Calls Try.prog 44 #[.slice a l.length c, .int .i64 (wd : Int)] w fun e w' => e = .returned (.int .u64 (nmB (l.take wd) : Nat)) ∧ w' = w := by
  have H := hidOf h
  clear h
  go_enter Try.func44, Try.ntmps44
  go_wp2
  go_loopw [8, 5] (fun iv nv wr => ∃ k : Nat, iv = .int .i64 k ∧ nv = .int .u64 (nmB (l.take k) : Nat) ∧ k ≤ wd ∧ wr = w) (fun iv _ _ => wd - (intOf iv).toNat)
  case atStart => exact ⟨0, rfl, rfl, by omega, rfl⟩
  case round =>
    obtain ⟨k, rfl, rfl, hk, rfl⟩ := hrel
    by_cases hkN : k < wd
    · have hlt : (k : Int) < wd := by omega
      have hlt3 : (k : Int) < l.length := by omega
      have h0 : (0 : Int) ≤ k := by omega
      have hkl2 : k < l.length := by omega
      obtain ⟨x, hx⟩ : ∃ x, l[k]? = some x := ⟨_, List.getElem?_eq_getElem hkl2⟩
      obtain ⟨b, off, _, rfl, dd⟩ := H.out.resolve_left (fun e => by rw [e] at hkl2; simp at hkl2)
      have d := dd k x hx
      have hkl : (l.take k).length = k := by rw [List.length_take]; omega
      have hst : nmB (l.take (k + 1)) = nmB (l.take k) ||| (x.toNat <<< (8 * k)) % 18446744073709551616 := by
        have hor := nmB_or (l.take k) x (by omega)
        rw [hkl] at hor
        rw [← hor, List.take_add_one, hx]; rfl
      have hlt2 : nmB (l.take k) < 18446744073709551616 := by
        have h1 := nmB_lt (l.take k)
        have h2 : 256 ^ (l.take k).length ≤ 256 ^ 8 := Nat.pow_le_pow_right (by omega) (by omega)
        omega
      have hxe : l[k] = x := by rw [List.getElem?_eq_getElem hkl2] at hx; exact Option.some.inj hx
      have hsh : Hid (IntKind.u64.wrap (IntKind.u64.wrap (x.toNat : Int) * 2 ^ (8 * k)) = (((x.toNat <<< (8 * k)) % 18446744073709551616 : Nat) : Int)) := by
        have hb := x.toNat_lt
        show _ = _
        rw [IntKind.wrap_u64 (x.toNat : Int), Int.emod_eq_of_lt (by omega) (by omega), IntKind.wrap_u64, Nat.shiftLeft_eq]
        rw [Int.natCast_emod, Int.natCast_mul, Int.natCast_pow]; rfl
      have hbits := hidOf (bits_or_u64_nat (nmB (l.take k)) ((x.toNat <<< (8 * k)) % 18446744073709551616) hlt2 (Nat.mod_lt _ (by omega)))
      have Hst := hidOf hst
      have Hxe := hidOf hxe
      clear dd hst hxe hlt2 hkl
      go_wp2
      rw [hsh.out, hbits.out, ← Hst.out]
      refine ⟨⟨k + 1, by simp, rfl, by omega, trivial⟩, ?_⟩
      simp [intOf]; omega
    · have hlt : ¬ (k : Int) < wd := by omega
      obtain rfl : k = wd := by omega
      go_wp2
      go_ret
      exact ⟨rfl, rfl⟩
/-- a number that stands in bytes -/
def nuB (l : List UInt8) (i n : Nat) : Nat := nmB ((l.drop i).take n)
theorem nu_lt (l : List UInt8) (i n : Nat) : nuB l i n < 256 ^ n := by
  have h := nmB_lt ((l.drop i).take n)
  have : 256 ^ ((l.drop i).take n).length ≤ 256 ^ n := Nat.pow_le_pow_right (by omega) (by rw [List.length_take]; omega)
  unfold nuB; omega
theorem take_cut {w : World} {g off : Nat} {l : List UInt8} (hg : g < w.heap.size) (h : BAt w g off l) (i n m c' : Nat) (hm : m = l.length - i) (hn : n ≤ 8) (hi : i + n ≤ l.length) : Calls Try.prog 44 #[.slice (some ⟨g, off + i, none⟩) m c', .int .i64 (n : Int)] w fun e w' => e = .returned (.int .u64 (nuB l i n : Nat)) ∧ w' = w := by
  have hl : (l.drop i).length = m := by rw [List.length_drop]; omega
  have hb : BAt w g (off + i) (l.drop i) := by
    have := h.cut i (l.drop i).length
    rwa [List.take_length] at this
  have := take_any w.heap.size (some ⟨g, off + i, none⟩) c' n (l.drop i) w (hb.rest hg) (by rw [List.length_drop]; omega) hn
  rwa [hl] at this
end Go.Proofs.Ytoobdcjkhphlcaa
