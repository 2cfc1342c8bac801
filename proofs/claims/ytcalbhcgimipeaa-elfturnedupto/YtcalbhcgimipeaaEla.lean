import Derived.Test.YtcalbhcgimipeaaAk
import Derived.Laws.Bits64b
namespace Go.Proofs.Ytcalbhcgimipeaa
open Go.RowKit
set_option linter.unusedVariables false
set_option linter.unusedSimpArgs false
/-- a number, its lowest byte first -/
def nmB : List UInt8 → Nat
  | [] => 0
  | b :: r => b.toNat + 256 * nmB r
theorem nmB_lt : ∀ l : List UInt8, nmB l < 256 ^ l.length
  | [] => by simp [nmB]
  | b :: r => by
    have := nmB_lt r
    have hb := b.toNat_lt
    simp only [nmB, List.length_cons, Nat.pow_succ]
    omega
theorem nmB_snoc : ∀ (l : List UInt8) (b : UInt8), nmB (l ++ [b]) = nmB l + 256 ^ l.length * b.toNat
  | [], b => by simp [nmB]
  | c :: r, b => by
    simp only [List.cons_append, nmB, nmB_snoc r b, List.length_cons, Nat.pow_succ]
    rw [Nat.mul_add, Nat.mul_comm (256 ^ r.length) 256, ← Nat.mul_assoc, Nat.add_assoc]
theorem nmB_or (l : List UInt8) (b : UInt8) (h : l.length ≤ 7) : nmB (l ++ [b]) = nmB l ||| (b.toNat <<< (8 * l.length)) % 18446744073709551616 := by
  have h1 := nmB_lt l
  have e : (256 : Nat) ^ l.length = 2 ^ (8 * l.length) := by rw [Nat.pow_mul]
  rw [e] at h1
  have hb := b.toNat_lt
  have h2 : b.toNat <<< (8 * l.length) < 18446744073709551616 := by
    rw [Nat.shiftLeft_eq]
    have : 2 ^ (8 * l.length) ≤ 2 ^ 56 := Nat.pow_le_pow_right (by omega) (by omega)
    calc b.toNat * 2 ^ (8 * l.length) ≤ 255 * 2 ^ 56 := Nat.mul_le_mul (by omega) this
      _ < _ := by omega
  rw [Nat.mod_eq_of_lt h2, Nat.shiftLeft_eq, nmB_snoc, e, Nat.or_comm, Nat.mul_comm b.toNat, ← Nat.two_pow_add_eq_or_of_lt h1, Nat.add_comm]
theorem number_any (B : Nat) (a : Option Addr) (c : Nat) (l : List UInt8) (w : World) (h : RestAt B w a l) (hl : l.length ≤ 8) :
    Calls Try.prog 94 #[.slice a l.length c] w fun e w' => e = .returned (.int .u64 (nmB l : Nat)) ∧ w' = w := by
  have H := hidOf h
  clear h
  go_enter Try.func94, Try.ntmps94
  go_wp2
  go_loopw [8, 3] (fun iv nv wr => ∃ k : Nat, iv = .int .i64 k ∧ nv = .int .u64 (nmB (l.take k) : Nat) ∧ k ≤ l.length ∧ wr = w) (fun iv _ _ => l.length - (intOf iv).toNat)
  case atStart => exact ⟨0, rfl, rfl, by omega, rfl⟩
  case round =>
    obtain ⟨k, rfl, rfl, hk, rfl⟩ := hrel
    by_cases hkN : k < l.length
    · have hlt : (k : Int) < l.length := by omega
      have h0 : (0 : Int) ≤ k := by omega
      obtain ⟨x, hx⟩ : ∃ x, l[k]? = some x := ⟨_, List.getElem?_eq_getElem hkN⟩
      obtain ⟨b, off, _, rfl, dd⟩ := H.out.resolve_left (fun e => by rw [e] at hkN; simp at hkN)
      have d := dd k x hx
      have hkl : (l.take k).length = k := by rw [List.length_take]; omega
      have hst : nmB (l.take (k + 1)) = nmB (l.take k) ||| (x.toNat <<< (8 * k)) % 18446744073709551616 := by
        have hor := nmB_or (l.take k) x (by omega)
        rw [hkl] at hor
        rw [← hor, List.take_add_one, hx]; rfl
      have hlt2 : nmB (l.take k) < 18446744073709551616 := by
        have h1 := nmB_lt (l.take k)
        have h2 : 256 ^ (l.take k).length ≤ 256 ^ 8 := Nat.pow_le_pow_right (by omega) (by omega)
        omega
      have hxe : l[k] = x := by rw [List.getElem?_eq_getElem hkN] at hx; exact Option.some.inj hx
      have hsh : Hid (IntKind.u64.wrap (IntKind.u64.wrap (x.toNat : Int) * 2 ^ (8 * k)) = (((x.toNat <<< (8 * k)) % 18446744073709551616 : Nat) : Int)) := by
        have hb := x.toNat_lt
        show _ = _
        rw [IntKind.wrap_u64 (x.toNat : Int), Int.emod_eq_of_lt (by omega) (by omega), IntKind.wrap_u64, Nat.shiftLeft_eq]
        rw [Int.natCast_emod, Int.natCast_mul, Int.natCast_pow]; rfl
      have hbits := hidOf (bits_or_u64_nat (nmB (l.take k)) ((x.toNat <<< (8 * k)) % 18446744073709551616) hlt2 (Nat.mod_lt _ (by omega)))
      have Hst := hidOf hst
      have Hxe := hidOf hxe
      clear dd hst hxe hlt2 hkl
      go_wp2
      rw [hsh.out, hbits.out, ← Hst.out]
      refine ⟨⟨k + 1, by simp, rfl, by omega, trivial⟩, ?_⟩
      simp [intOf]; omega
    · have hlt : ¬ (k : Int) < l.length := by omega
      obtain rfl : k = l.length := by omega
      rw [List.take_length]
      go_wp2
      go_ret
      exact ⟨rfl, rfl⟩
def jw (n : Int) : Nat := (n % 18446744073709551616).toNat
theorem jw_wrap (n : Int) : IntKind.u64.wrap n = (jw n : Nat) := by rw [IntKind.wrap_u64]; unfold jw; omega
theorem jw_nat (n : Nat) (h : n < 18446744073709551616) : jw n = n := by unfold jw; omega
theorem sizeSp : (Try.prog.info? 81).map (·.size) = some 2 := by kernel_rfl
theorem just_any (n : Int) (w : World) : Calls Try.prog 38 #[.int .i64 n] w fun e w' => e = .returned (.agg #[.int .u64 (jw n : Nat), .int .u64 (jw n : Nat)]) ∧ w' = w.alloc (.cells #[.int .u64 (jw n : Nat), .int .u64 (jw n : Nat)] 81) := by
  have h := jw_wrap n
  go_enter Try.func38, Try.ntmps38
  go_wp2
  refine bodyPost_ret (results_cell_row rfl _ _ w.heap.size 81 _ (0, 0) _ rfl (heap_alloc_new _ _) Try.underlying81 rfl sizeSp) rfl ?_
  exact ⟨rfl, rfl⟩
theorem upTo_any (n : Int) (w : World) : Calls Try.prog 95 #[.int .i64 n] w fun e w' => e = .returned (.agg #[.int .u64 0, .int .u64 (jw n : Nat)]) ∧ w' = w.alloc (.cells #[.int .u64 0, .int .u64 (jw n : Nat)] 81) := by
  have h := jw_wrap n
  go_enter Try.func95, Try.ntmps95
  go_wp2
  refine bodyPost_ret (results_cell_row rfl _ _ w.heap.size 81 _ (0, 0) _ rfl (heap_alloc_new _ _) Try.underlying81 rfl sizeSp) rfl ?_
  exact ⟨rfl, rfl⟩
theorem none_any (w : World) : Calls Try.prog 71 #[] w fun e w' => e = .returned (.agg #[.int .u64 1, .int .u64 0]) ∧ w' = w.alloc (.cells #[.int .u64 1, .int .u64 0] 81) := by
  go_enter Try.func71, Try.ntmps71
  go_wp2
  refine bodyPost_ret (results_cell_row rfl _ _ w.heap.size 81 _ (0, 0) _ rfl (heap_alloc_new _ _) Try.underlying81 rfl sizeSp) rfl ?_
  exact ⟨rfl, rfl⟩
def up8 (n : Nat) : Nat := (n + 7) / 8 * 8
theorem up8_any (n : Nat) (h1 : n ≤ 4000000000000000000) (w : World) : Calls Try.prog 69 #[.int .i64 n] w fun e w' => e = .returned (.int .i64 (up8 n : Nat)) ∧ w' = w := by
  have h2 : (n : Int) ≤ 4000000000000000000 := by omega
  go_enter Try.func69, Try.ntmps69
  go_wp2
  go_ret
  refine ⟨?_, rfl⟩
  congr 2
/-- the bytes of a number -/
def leB (n : Nat) : Nat → List UInt8
  | 0 => []
  | k + 1 => UInt8.ofNat (n % 256) :: leB (n / 256) k
theorem leB_len (k : Nat) : ∀ n, (leB n k).length = k := by
  induction k with
  | zero => intro n; rfl
  | succ k ih => intro n; simp [leB, ih]
theorem leB_snoc (k : Nat) : ∀ n, leB n (k + 1) = leB n k ++ [UInt8.ofNat (n / 256 ^ k % 256)] := by
  induction k with
  | zero => intro n; simp [leB]
  | succ k ih => intro n; rw [leB, ih (n / 256)]; simp [leB, Nat.div_div_eq_div_mul, Nat.pow_succ, Nat.mul_comm]
theorem nm_le (k : Nat) : ∀ n, nmB (leB n k) = n % 256 ^ k := by
  induction k with
  | zero => intro n; simp [leB, nmB, Nat.mod_one]
  | succ k ih =>
    intro n
    have h : (UInt8.ofNat (n % 256)).toNat = n % 256 := by simp
    rw [leB, nmB, ih, h, Nat.pow_succ, Nat.mul_comm (256 ^ k) 256, Nat.mod_mul]
theorem le_nm : ∀ l : List UInt8, leB (nmB l) l.length = l
  | [] => rfl
  | b :: r => by
    have hb := b.toNat_lt
    simp only [nmB, List.length_cons, leB]
    have h1 : (b.toNat + 256 * nmB r) % 256 = b.toNat := by omega
    have h2 : (b.toNat + 256 * nmB r) / 256 = nmB r := by omega
    rw [h1, h2, le_nm r]
    simp
end Go.Proofs.Ytcalbhcgimipeaa
