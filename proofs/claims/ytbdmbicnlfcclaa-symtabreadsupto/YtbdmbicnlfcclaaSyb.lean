import Derived.Test.YtbdmbicnlfcclaaSya
namespace Go.Proofs.Ytbdmbicnlfcclaa
open Go.RowKit
set_option linter.unusedVariables false
set_option linter.unusedSimpArgs false
theorem bits_or_i64 (a b : Nat) (ha : a < 18446744073709551616) (hb : b < 18446744073709551616) : bits BinOp.or IntKind.i64 (wrap64 (a : Int)) (wrap64 (b : Int)) = wrap64 ((a ||| b : Nat) : Int) := by
  have hx : a ||| b < 2 ^ 64 := Nat.or_lt_two_pow (by omega) (by omega)
  have key : ∀ n : Nat, n < 18446744073709551616 → (BitVec.ofInt 64 (wrap64 (n : Int))).toNat = n := by
    intro n hn
    rw [BitVec.toNat_ofInt]
    have : wrap64 (n : Int) % (2 ^ 64 : Nat) = n := by
      unfold wrap64
      first | omega | (rw [IntKind.wrap_i64]; omega) | (simp; omega)
    rw [this]; rfl
  show IntKind.i64.wrap ((BitVec.ofInt 64 (wrap64 (a : Int)) ||| BitVec.ofInt 64 (wrap64 (b : Int))).toNat : Int) = _
  rw [BitVec.toNat_or, key a ha, key b hb]
  first | rfl | (unfold wrap64; rw [IntKind.wrap_i64])
theorem w64_small (n : Nat) (h : n ≤ 9223372036854775807) : wrap64 (n : Int) = n := by
  unfold wrap64
  first | omega | (rw [IntKind.wrap_i64]; omega) | (simp; omega)
theorem wrap64_eq (n : Int) : IntKind.i64.wrap n = wrap64 n := by
  first | rfl | (unfold wrap64; rw [IntKind.wrap_i64])
theorem number_any (B : Nat) (a : Option Addr) (c : Nat) (l : List UInt8) (w : World) (h : RestAt B w a l) (hl : l.length ≤ 8) :
    Calls Try.prog 48 #[.slice a l.length c] w fun e w' => e = .returned (.int .i64 (wrap64 (nmB l : Nat))) ∧ w' = w := by
  have H := hidOf h
  clear h
  go_enter Try.func48, Try.ntmps48
  go_wp2
  go_loopw [8, 3] (fun iv nv wr => ∃ k : Nat, iv = .int .i64 k ∧ nv = .int .i64 (wrap64 (nmB (l.take k) : Nat)) ∧ k ≤ l.length ∧ wr = w) (fun iv _ _ => l.length - (intOf iv).toNat)
  case atStart => exact ⟨0, rfl, by rw [List.take_zero, show nmB [] = 0 from rfl, w64_small 0 (by omega)]; rfl, by omega, rfl⟩
  case round =>
    obtain ⟨k, rfl, rfl, hk, rfl⟩ := hrel
    by_cases hkN : k < l.length
    · have hlt : (k : Int) < l.length := by omega
      have h0 : (0 : Int) ≤ k := by omega
      obtain ⟨x, hx⟩ : ∃ x, l[k]? = some x := ⟨_, List.getElem?_eq_getElem hkN⟩
      obtain ⟨b, off, _, rfl, dd⟩ := H.out.resolve_left (fun e => by rw [e] at hkN; simp at hkN)
      have d := dd k x hx
      have hkl : (l.take k).length = k := by rw [List.length_take]; omega
      have hst : nmB (l.take (k + 1)) = nmB (l.take k) ||| (x.toNat <<< (8 * k)) % 18446744073709551616 := by
        have hor := nmB_or (l.take k) x (by omega)
        rw [hkl] at hor
        rw [← hor, List.take_add_one, hx]; rfl
      have hlt2 : nmB (l.take k) < 18446744073709551616 := by
        have h1 := nmB_lt (l.take k)
        have h2 : 256 ^ (l.take k).length ≤ 256 ^ 8 := Nat.pow_le_pow_right (by omega) (by omega)
        omega
      have hxe : l[k] = x := by rw [List.getElem?_eq_getElem hkN] at hx; exact Option.some.inj hx
      have hsh : Hid (wrap64 (wrap64 (x.toNat : Int) * 2 ^ (8 * k)) = wrap64 (((x.toNat <<< (8 * k)) % 18446744073709551616 : Nat) : Int)) := by
        show _ = _
        have hx256 := x.toNat_lt
        rw [w64_small x.toNat (by omega), Nat.shiftLeft_eq]
        have : ((x.toNat * 2 ^ (8 * k) : Nat) : Int) = (x.toNat : Int) * 2 ^ (8 * k) := by rw [Int.natCast_mul, Int.natCast_pow]; rfl
        rw [← this]
        generalize x.toNat * 2 ^ (8 * k) = m
        unfold wrap64
        first | omega | (rw [IntKind.wrap_i64, IntKind.wrap_i64]; omega) | (simp; omega)
      have hbits := hidOf (bits_or_i64 (nmB (l.take k)) ((x.toNat <<< (8 * k)) % 18446744073709551616) hlt2 (Nat.mod_lt _ (by omega)))
      have Hst := hidOf hst
      have Hxe := hidOf hxe
      generalize wrap64 (nmB (l.take k) : Nat) = nv at *
      clear dd hst hxe hlt2 hkl
      go_wp2
      rw [hsh.out, hbits.out, ← Hst.out]
      refine ⟨⟨k + 1, by simp, rfl, by omega, trivial⟩, ?_⟩
      simp [intOf]; omega
    · have hlt : ¬ (k : Int) < l.length := by omega
      obtain rfl : k = l.length := by omega
      rw [List.take_length]
      go_wp2
      go_ret
      exact ⟨rfl, rfl⟩
theorem sortByte_any (na bi ki se va si : Int) (w : World) (hb : 0 ≤ bi ∧ bi < 16) (hk : 0 ≤ ki ∧ ki < 16) : Calls Try.prog 45 #[.agg #[.int .i64 na, .int .i64 bi, .int .i64 ki, .int .i64 se, .int .i64 va, .int .i64 si]] w fun e w' => e = .returned (.int .i64 (16 * bi + ki)) ∧ Out w w' := by
  obtain ⟨hb0, hb1⟩ := hb
  obtain ⟨hk0, hk1⟩ := hk
  go_enter Try.func45, Try.ntmps45
  go_wp2
  go_ret
  exact ⟨rfl, (Out.refl _).alloc _⟩
/-- a sort, as a value -/
def kv : Nat → Value
  | 1 => .iface 98 (.agg #[])
  | 2 => .iface 99 (.agg #[])
  | 3 => .iface 100 (.agg #[])
  | 4 => .iface 101 (.agg #[])
  | _ => .nilIface
/-- the sort of a fifth byte -/
def fifP (n : Int) : Nat := if n = 2 then 1 else if n = 1 then 2 else if n = 18 then 3 else if n = 16 then 4 else 0
def seP : Nat → Int
  | 1 => 1
  | 2 => 2
  | 3 => 1
  | _ => 0
def vaP : Nat → Int → Bool
  | 2, n => decide (0 ≤ n) && (n % 16 == 0)
  | 4, n => n == 0
  | _, n => decide (0 ≤ n) && (n % 8 == 0)
def siP : Nat → Int → Bool
  | 2, n => n == 16
  | 4, n => n == 0
  | _, n => decide (0 < n) && (n % 8 == 0)
/-- what stands ahead -/
structure Rn where
  r : Int
  c : Int
  v : Int
def foP : Nat → Rn → Int → Bool
  | 2, q, n => decide (n = 16 * q.c)
  | 4, _, _ => true
  | _, q, n => decide (q.c = 0) || decide (q.v < n)
theorem sortOf_any (n : Int) (w : World) : Calls Try.prog 44 #[.int .i64 n] w fun e w' => e = .returned (.tuple #[kv (fifP n), .bool (decide (0 < fifP n))]) ∧ w' = w := by
  unfold fifP
  by_cases h1 : n = 2
  · subst h1
    go_enter Try.func44, Try.ntmps44
    go_wp2
    go_ret2
    exact ⟨rfl, rfl⟩
  · by_cases h2 : n = 1
    · subst h2
      go_enter Try.func44, Try.ntmps44
      go_wp2
      go_ret2
      exact ⟨rfl, rfl⟩
    · by_cases h3 : n = 18
      · subst h3
        go_enter Try.func44, Try.ntmps44
        go_wp2
        go_ret2
        exact ⟨rfl, rfl⟩
      · by_cases h4 : n = 16
        · subst h4
          go_enter Try.func44, Try.ntmps44
          go_wp2
          go_ret2
          exact ⟨rfl, rfl⟩
        · have e1 : (n == 2) = false := by simp [h1]
          have e2 : (n == 1) = false := by simp [h2]
          have e3 : (n == 18) = false := by simp [h3]
          have e4 : (n == 16) = false := by simp [h4]
          go_enter Try.func44, Try.ntmps44
          go_wp2
          go_ret2
          simp only [if_neg h1, if_neg h2, if_neg h3, if_neg h4]
          first | exact ⟨rfl, rfl⟩ | exact ⟨rfl, trivial⟩
theorem rank1 (w : World) : Calls Try.prog 75 #[.agg #[]] w fun e w' => e = .returned (.int .i64 1) ∧ Out w w' := by
  go_enter Try.func75, Try.ntmps75
  go_wp2
  go_ret
  exact ⟨rfl, by first | exact Out.refl _ | exact (Out.refl _).alloc _⟩
theorem rank2 (w : World) : Calls Try.prog 79 #[.agg #[]] w fun e w' => e = .returned (.int .i64 2) ∧ Out w w' := by
  go_enter Try.func79, Try.ntmps79
  go_wp2
  go_ret
  exact ⟨rfl, by first | exact Out.refl _ | exact (Out.refl _).alloc _⟩
theorem rank3 (w : World) : Calls Try.prog 81 #[.agg #[]] w fun e w' => e = .returned (.int .i64 3) ∧ Out w w' := by
  go_enter Try.func81, Try.ntmps81
  go_wp2
  go_ret
  exact ⟨rfl, by first | exact Out.refl _ | exact (Out.refl _).alloc _⟩
theorem rank4 (w : World) : Calls Try.prog 85 #[.agg #[]] w fun e w' => e = .returned (.int .i64 4) ∧ Out w w' := by
  go_enter Try.func85, Try.ntmps85
  go_wp2
  go_ret
  exact ⟨rfl, by first | exact Out.refl _ | exact (Out.refl _).alloc _⟩
theorem sect_function (w : World) : Calls Try.prog 74 #[.agg #[]] w fun e w' => e = .returned (.int .i64 (seP 1)) ∧ Out w w' := by
  go_enter Try.func74, Try.ntmps74
  go_wp2
  go_ret
  exact ⟨rfl, by first | exact Out.refl _ | exact (Out.refl _).alloc _⟩
theorem hasValue_function (n : Int) (w : World) : Calls Try.prog 73 #[.agg #[], .int .i64 n] w fun e w' => e = .returned (.bool (vaP 1 n)) ∧ Out w w' := by
  by_cases h0 : 0 ≤ n
  · by_cases h1 : 0 < n
    · go_enter Try.func73, Try.ntmps73
      go_wp2
      all_goals
        go_ret
        refine ⟨?_, by first | exact Out.refl _ | exact (Out.refl _).drew | exact (Out.refl _).alloc _ | exact ((Out.refl _).alloc _).drew⟩
        first | rfl | (show Ending.returned (Value.bool _) = _; simp [vaP, h0, h1]; done)
    · obtain rfl : n = 0 := by omega
      go_enter Try.func73, Try.ntmps73
      go_wp2
      all_goals
        go_ret
        exact ⟨rfl, by first | exact Out.refl _ | exact (Out.refl _).drew | exact (Out.refl _).alloc _ | exact ((Out.refl _).alloc _).drew⟩
  · have h1 : ¬ 0 < n := by omega
    have h2 : ¬ n = 0 := by omega
    have h3 : ¬ n = 16 := by omega
    go_enter Try.func73, Try.ntmps73
    go_wp2
    all_goals
      go_ret
      refine ⟨?_, by first | exact Out.refl _ | exact (Out.refl _).drew | exact (Out.refl _).alloc _ | exact ((Out.refl _).alloc _).drew⟩
      first | rfl | (show Ending.returned (Value.bool _) = _; simp [vaP, h0, h1, h2, h3]; done) | (show Ending.returned (Value.bool _) = _; simp [vaP, h2, h3]; omega)
theorem hasSize_function (n : Int) (w : World) : Calls Try.prog 72 #[.agg #[], .int .i64 n] w fun e w' => e = .returned (.bool (siP 1 n)) ∧ Out w w' := by
  by_cases h0 : 0 ≤ n
  · by_cases h1 : 0 < n
    · go_enter Try.func72, Try.ntmps72
      go_wp2
      all_goals
        go_ret
        refine ⟨?_, by first | exact Out.refl _ | exact (Out.refl _).drew | exact (Out.refl _).alloc _ | exact ((Out.refl _).alloc _).drew⟩
        first | rfl | (show Ending.returned (Value.bool _) = _; simp [siP, h0, h1]; done)
    · obtain rfl : n = 0 := by omega
      go_enter Try.func72, Try.ntmps72
      go_wp2
      all_goals
        go_ret
        exact ⟨rfl, by first | exact Out.refl _ | exact (Out.refl _).drew | exact (Out.refl _).alloc _ | exact ((Out.refl _).alloc _).drew⟩
  · have h1 : ¬ 0 < n := by omega
    have h2 : ¬ n = 0 := by omega
    have h3 : ¬ n = 16 := by omega
    go_enter Try.func72, Try.ntmps72
    go_wp2
    all_goals
      go_ret
      refine ⟨?_, by first | exact Out.refl _ | exact (Out.refl _).drew | exact (Out.refl _).alloc _ | exact ((Out.refl _).alloc _).drew⟩
      first | rfl | (show Ending.returned (Value.bool _) = _; simp [siP, h0, h1, h2, h3]; done) | (show Ending.returned (Value.bool _) = _; simp [siP, h2, h3]; omega)
theorem sect_table (w : World) : Calls Try.prog 80 #[.agg #[]] w fun e w' => e = .returned (.int .i64 (seP 2)) ∧ Out w w' := by
  go_enter Try.func80, Try.ntmps80
  go_wp2
  go_ret
  exact ⟨rfl, by first | exact Out.refl _ | exact (Out.refl _).alloc _⟩
theorem hasValue_table (n : Int) (w : World) : Calls Try.prog 78 #[.agg #[], .int .i64 n] w fun e w' => e = .returned (.bool (vaP 2 n)) ∧ Out w w' := by
  by_cases h0 : 0 ≤ n
  · by_cases h1 : 0 < n
    · go_enter Try.func78, Try.ntmps78
      go_wp2
      all_goals
        go_ret
        refine ⟨?_, by first | exact Out.refl _ | exact (Out.refl _).drew | exact (Out.refl _).alloc _ | exact ((Out.refl _).alloc _).drew⟩
        first | rfl | (show Ending.returned (Value.bool _) = _; simp [vaP, h0, h1]; done)
    · obtain rfl : n = 0 := by omega
      go_enter Try.func78, Try.ntmps78
      go_wp2
      all_goals
        go_ret
        exact ⟨rfl, by first | exact Out.refl _ | exact (Out.refl _).drew | exact (Out.refl _).alloc _ | exact ((Out.refl _).alloc _).drew⟩
  · have h1 : ¬ 0 < n := by omega
    have h2 : ¬ n = 0 := by omega
    have h3 : ¬ n = 16 := by omega
    go_enter Try.func78, Try.ntmps78
    go_wp2
    all_goals
      go_ret
      refine ⟨?_, by first | exact Out.refl _ | exact (Out.refl _).drew | exact (Out.refl _).alloc _ | exact ((Out.refl _).alloc _).drew⟩
      first | rfl | (show Ending.returned (Value.bool _) = _; simp [vaP, h0, h1, h2, h3]; done) | (show Ending.returned (Value.bool _) = _; simp [vaP, h2, h3]; omega)
theorem hasSize_table (n : Int) (w : World) : Calls Try.prog 77 #[.agg #[], .int .i64 n] w fun e w' => e = .returned (.bool (siP 2 n)) ∧ Out w w' := by
  by_cases h0 : 0 ≤ n
  · by_cases h1 : 0 < n
    · go_enter Try.func77, Try.ntmps77
      go_wp2
      all_goals
        go_ret
        refine ⟨?_, by first | exact Out.refl _ | exact (Out.refl _).drew | exact (Out.refl _).alloc _ | exact ((Out.refl _).alloc _).drew⟩
        first | rfl | (show Ending.returned (Value.bool _) = _; simp [siP, h0, h1]; done)
    · obtain rfl : n = 0 := by omega
      go_enter Try.func77, Try.ntmps77
      go_wp2
      all_goals
        go_ret
        exact ⟨rfl, by first | exact Out.refl _ | exact (Out.refl _).drew | exact (Out.refl _).alloc _ | exact ((Out.refl _).alloc _).drew⟩
  · have h1 : ¬ 0 < n := by omega
    have h2 : ¬ n = 0 := by omega
    have h3 : ¬ n = 16 := by omega
    go_enter Try.func77, Try.ntmps77
    go_wp2
    all_goals
      go_ret
      refine ⟨?_, by first | exact Out.refl _ | exact (Out.refl _).drew | exact (Out.refl _).alloc _ | exact ((Out.refl _).alloc _).drew⟩
      first | rfl | (show Ending.returned (Value.bool _) = _; simp [siP, h0, h1, h2, h3]; done) | (show Ending.returned (Value.bool _) = _; simp [siP, h2, h3]; omega)
theorem sect_extern (w : World) : Calls Try.prog 86 #[.agg #[]] w fun e w' => e = .returned (.int .i64 (seP 4)) ∧ Out w w' := by
  go_enter Try.func86, Try.ntmps86
  go_wp2
  go_ret
  exact ⟨rfl, by first | exact Out.refl _ | exact (Out.refl _).alloc _⟩
theorem hasValue_extern (n : Int) (w : World) : Calls Try.prog 84 #[.agg #[], .int .i64 n] w fun e w' => e = .returned (.bool (vaP 4 n)) ∧ Out w w' := by
  by_cases h0 : 0 ≤ n
  · by_cases h1 : 0 < n
    · go_enter Try.func84, Try.ntmps84
      go_wp2
      all_goals
        go_ret
        refine ⟨?_, by first | exact Out.refl _ | exact (Out.refl _).drew | exact (Out.refl _).alloc _ | exact ((Out.refl _).alloc _).drew⟩
        first | rfl | (show Ending.returned (Value.bool _) = _; simp [vaP, h0, h1]; done)
    · obtain rfl : n = 0 := by omega
      go_enter Try.func84, Try.ntmps84
      go_wp2
      all_goals
        go_ret
        exact ⟨rfl, by first | exact Out.refl _ | exact (Out.refl _).drew | exact (Out.refl _).alloc _ | exact ((Out.refl _).alloc _).drew⟩
  · have h1 : ¬ 0 < n := by omega
    have h2 : ¬ n = 0 := by omega
    have h3 : ¬ n = 16 := by omega
    go_enter Try.func84, Try.ntmps84
    go_wp2
    all_goals
      go_ret
      refine ⟨?_, by first | exact Out.refl _ | exact (Out.refl _).drew | exact (Out.refl _).alloc _ | exact ((Out.refl _).alloc _).drew⟩
      first | rfl | (show Ending.returned (Value.bool _) = _; simp [vaP, h0, h1, h2, h3]; done) | (show Ending.returned (Value.bool _) = _; simp [vaP, h2, h3]; omega)
theorem hasSize_extern (n : Int) (w : World) : Calls Try.prog 83 #[.agg #[], .int .i64 n] w fun e w' => e = .returned (.bool (siP 4 n)) ∧ Out w w' := by
  by_cases h0 : 0 ≤ n
  · by_cases h1 : 0 < n
    · go_enter Try.func83, Try.ntmps83
      go_wp2
      all_goals
        go_ret
        refine ⟨?_, by first | exact Out.refl _ | exact (Out.refl _).drew | exact (Out.refl _).alloc _ | exact ((Out.refl _).alloc _).drew⟩
        first | rfl | (show Ending.returned (Value.bool _) = _; simp [siP, h0, h1]; done)
    · obtain rfl : n = 0 := by omega
      go_enter Try.func83, Try.ntmps83
      go_wp2
      all_goals
        go_ret
        exact ⟨rfl, by first | exact Out.refl _ | exact (Out.refl _).drew | exact (Out.refl _).alloc _ | exact ((Out.refl _).alloc _).drew⟩
  · have h1 : ¬ 0 < n := by omega
    have h2 : ¬ n = 0 := by omega
    have h3 : ¬ n = 16 := by omega
    go_enter Try.func83, Try.ntmps83
    go_wp2
    all_goals
      go_ret
      refine ⟨?_, by first | exact Out.refl _ | exact (Out.refl _).drew | exact (Out.refl _).alloc _ | exact ((Out.refl _).alloc _).drew⟩
      first | rfl | (show Ending.returned (Value.bool _) = _; simp [siP, h0, h1, h2, h3]; done) | (show Ending.returned (Value.bool _) = _; simp [siP, h2, h3]; omega)
theorem meth1_rank (w : World) : (method 220 98 (.agg #[]) "spindle/symtab.rank").run Try.prog w = .ok (75, .agg #[]) w := by kernel_rfl
theorem meth1_section (w : World) : (method 220 98 (.agg #[]) "spindle/symtab.section").run Try.prog w = .ok (74, .agg #[]) w := by kernel_rfl
theorem meth1_hasValue (w : World) : (method 220 98 (.agg #[]) "spindle/symtab.hasValue").run Try.prog w = .ok (73, .agg #[]) w := by kernel_rfl
theorem meth1_hasSize (w : World) : (method 220 98 (.agg #[]) "spindle/symtab.hasSize").run Try.prog w = .ok (72, .agg #[]) w := by kernel_rfl
theorem meth1_follows (w : World) : (method 220 98 (.agg #[]) "spindle/symtab.follows").run Try.prog w = .ok (71, .agg #[]) w := by kernel_rfl
theorem meth2_rank (w : World) : (method 220 99 (.agg #[]) "spindle/symtab.rank").run Try.prog w = .ok (79, .agg #[]) w := by kernel_rfl
theorem meth2_section (w : World) : (method 220 99 (.agg #[]) "spindle/symtab.section").run Try.prog w = .ok (80, .agg #[]) w := by kernel_rfl
theorem meth2_hasValue (w : World) : (method 220 99 (.agg #[]) "spindle/symtab.hasValue").run Try.prog w = .ok (78, .agg #[]) w := by kernel_rfl
theorem meth2_hasSize (w : World) : (method 220 99 (.agg #[]) "spindle/symtab.hasSize").run Try.prog w = .ok (77, .agg #[]) w := by kernel_rfl
theorem meth2_follows (w : World) : (method 220 99 (.agg #[]) "spindle/symtab.follows").run Try.prog w = .ok (76, .agg #[]) w := by kernel_rfl
theorem meth3_rank (w : World) : (method 220 100 (.agg #[]) "spindle/symtab.rank").run Try.prog w = .ok (81, .agg #[]) w := by kernel_rfl
theorem meth3_section (w : World) : (method 220 100 (.agg #[]) "spindle/symtab.section").run Try.prog w = .ok (74, .agg #[]) w := by kernel_rfl
theorem meth3_hasValue (w : World) : (method 220 100 (.agg #[]) "spindle/symtab.hasValue").run Try.prog w = .ok (73, .agg #[]) w := by kernel_rfl
theorem meth3_hasSize (w : World) : (method 220 100 (.agg #[]) "spindle/symtab.hasSize").run Try.prog w = .ok (72, .agg #[]) w := by kernel_rfl
theorem meth3_follows (w : World) : (method 220 100 (.agg #[]) "spindle/symtab.follows").run Try.prog w = .ok (71, .agg #[]) w := by kernel_rfl
theorem meth4_rank (w : World) : (method 220 101 (.agg #[]) "spindle/symtab.rank").run Try.prog w = .ok (85, .agg #[]) w := by kernel_rfl
theorem meth4_section (w : World) : (method 220 101 (.agg #[]) "spindle/symtab.section").run Try.prog w = .ok (86, .agg #[]) w := by kernel_rfl
theorem meth4_hasValue (w : World) : (method 220 101 (.agg #[]) "spindle/symtab.hasValue").run Try.prog w = .ok (84, .agg #[]) w := by kernel_rfl
theorem meth4_hasSize (w : World) : (method 220 101 (.agg #[]) "spindle/symtab.hasSize").run Try.prog w = .ok (83, .agg #[]) w := by kernel_rfl
theorem meth4_follows (w : World) : (method 220 101 (.agg #[]) "spindle/symtab.follows").run Try.prog w = .ok (82, .agg #[]) w := by kernel_rfl
end Go.Proofs.Ytbdmbicnlfcclaa
