import Derived.Test.YtlfcjbeldnkkoaaGb04
import Derived.Laws.Bits64b
import Derived.Laws.MakeOwn
namespace Go.Proofs.Ytlfcjbeldnkkoaa
open Go.RowKit
open Go.Maps (Keyed)
set_option linter.unusedVariables false
set_option linter.unusedSimpArgs false
theorem byP_last (A : List (List UInt8)) : ∃ C, byP A = C ++ [0] := by
  rcases list_cases A with rfl | ⟨M, y, rfl⟩
  · exact ⟨[], rfl⟩
  · exact ⟨byP M ++ y, by rw [byP_snoc]⟩
theorem byP_app (A B : List (List UInt8)) : byP (A ++ B) = byP A ++ byF B := by simp [byP, byF]
/-- a name stands in the bytes at its place -/
theorem place_bytes {N : List (List UInt8)} {x : List UInt8} (hx : x ∈ N) : ∃ C D, byP N = C ++ ([0] ++ (x ++ ([0] ++ D))) ∧ plF 1 N x = C.length + 1 ∧ atF 1 N (plF 1 N x : Nat) = some x := by
  obtain ⟨k, hk, hp⟩ := plF_at N 1 x hx
  have hN : N = N.take k ++ ([x] ++ N.drop (k + 1)) := by
    have hk' : k < N.length := (List.getElem?_eq_some_iff.1 hk).1
    have hd := List.drop_eq_getElem_cons hk'
    have hx' : N[k] = x := by rw [List.getElem?_eq_getElem hk'] at hk; exact Option.some.inj hk
    rw [hx'] at hd
    rw [List.singleton_append, ← hd, List.take_append_drop]
  obtain ⟨C, hC⟩ := byP_last (N.take k)
  refine ⟨C, byF (N.drop (k + 1)), ?_, ?_, by rw [hp]; exact atF_end N 1 x k hk⟩
  · conv => lhs; rw [hN]
    rw [byP_app, hC]
    simp [byF]
  · rw [hp, ← byP_len, hC]; simp
theorem nmP_name (x r : List UInt8) (h : nameOk x = true) : nmP (x ++ 0 :: r) = x := by
  unfold nameOk at h
  simp only [Bool.and_eq_true, decide_eq_true_eq, Bool.not_eq_true'] at h
  obtain ⟨⟨h1, h2⟩, h3⟩ := h
  have h0 : ¬ (0 : UInt8) ∈ x := by simpa using h3
  have hc : ((x ++ 0 :: r).take 65).contains 0 = true := by
    have : (0 : UInt8) ∈ (x ++ 0 :: r).take 65 := by
      refine List.mem_of_getElem? (i := x.length) ?_
      rw [List.getElem?_take, if_pos (by omega), List.getElem?_append_right (Nat.le_refl _)]
      simp
    simpa using this
  unfold nmP
  rw [if_pos hc, List.takeWhile_append_of_pos (fun a ha => by simp; intro e; exact h0 (e ▸ ha))]
  simp
theorem name_ne {x : List UInt8} (h : nameOk x = true) : ¬ x = [] := fun e => by rw [e] at h; cases h
theorem rd_back : ∀ (M A : List (List UInt8)), (A ++ M).Nodup → (∀ x ∈ M, nameOk x = true) → rdR (byF M) A = (some (A ++ M), 0)
  | [], A, _, _ => by simp [byF, rdR_nil]
  | x :: r, A, hd, hn => by
    have hx := hn x (by simp)
    have e : byF (x :: r) = x ++ 0 :: byF r := by simp [byF]
    have hnm := nmP_name x (byF r) hx
    rw [e, rdR_ok _ _ (by simp) ?_ (by rw [hnm]; exact name_ne hx), hnm]
    · have e2 : (x ++ 0 :: byF r).drop (x.length + 1) = byF r := by
        rw [show x ++ 0 :: byF r = (x ++ [0]) ++ byF r by simp, List.drop_left' (by simp)]
      rw [e2, rd_back r (A ++ [x]) (by simpa using hd) (fun y hy => hn y (by simp [hy]))]
      simp
    · rw [hnm]
      intro hm
      have := List.nodup_append.1 hd
      exact this.2.2 x hm x (by simp) rfl
theorem read_back {N : List (List UInt8)} (hd : N.Nodup) (hn : ∀ x ∈ N, nameOk x = true) : rdP (byP N) = (some N, 0) := by
  show rdR (byF N) [] = _
  rw [rd_back N [] (by simpa using hd) hn]
  simp
theorem OwB.rest {B : Nat} {v : Value} {O : List UInt8} {w : World} (h : OwB B v O w) : ∃ a cp, v = .slice a O.length cp ∧ O.length ≤ cp ∧ RestAt w.heap.size w a O := by
  rcases h.2 with ⟨hv, hn⟩ | ⟨g, cap, cur, hv, hb, hg, hc, _⟩
  · exact ⟨none, 0, by rw [hv, hn], by omega, .inl (List.length_eq_zero_iff.1 hn)⟩
  · refine ⟨_, _, hv, hc, .inr ⟨g, 0, (Array.getElem?_eq_some_iff.1 hg).1, rfl, fun k x hx => ?_⟩⟩
    have h1 := World.ownsRow.cells h (g := g) (by rw [hv]; rfl) k (.int .u8 (x.toNat : Int)) (by simp [Lib.byteCells, hx])
    rw [Nat.zero_add, ← h1, Go.WideShapes.add_plain, Nat.zero_add]
end Go.Proofs.Ytlfcjbeldnkkoaa
namespace Go.Proofs.Ytlfcjbeldnkkoaa
open Go.RowKit
set_option linter.unusedVariables false
set_option linter.unusedSimpArgs false
/-- a number, its lowest byte first -/
def nmB : List UInt8 → Nat
  | [] => 0
  | b :: r => b.toNat + 256 * nmB r
theorem nmB_lt : ∀ l : List UInt8, nmB l < 256 ^ l.length
  | [] => by simp [nmB]
  | b :: r => by
    have := nmB_lt r
    have hb := b.toNat_lt
    simp only [nmB, List.length_cons, Nat.pow_succ]
    omega
theorem nmB_snoc : ∀ (l : List UInt8) (b : UInt8), nmB (l ++ [b]) = nmB l + 256 ^ l.length * b.toNat
  | [], b => by simp [nmB]
  | c :: r, b => by
    simp only [List.cons_append, nmB, nmB_snoc r b, List.length_cons, Nat.pow_succ]
    rw [Nat.mul_add, Nat.mul_comm (256 ^ r.length) 256, ← Nat.mul_assoc, Nat.add_assoc]
theorem nmB_or (l : List UInt8) (b : UInt8) (h : l.length ≤ 7) : nmB (l ++ [b]) = nmB l ||| (b.toNat <<< (8 * l.length)) % 18446744073709551616 := by
  have h1 := nmB_lt l
  have e : (256 : Nat) ^ l.length = 2 ^ (8 * l.length) := by rw [Nat.pow_mul]
  rw [e] at h1
  have hb := b.toNat_lt
  have h2 : b.toNat <<< (8 * l.length) < 18446744073709551616 := by
    rw [Nat.shiftLeft_eq]
    have : 2 ^ (8 * l.length) ≤ 2 ^ 56 := Nat.pow_le_pow_right (by omega) (by omega)
    calc b.toNat * 2 ^ (8 * l.length) ≤ 255 * 2 ^ 56 := Nat.mul_le_mul (by omega) this
      _ < _ := by omega
  rw [Nat.mod_eq_of_lt h2, Nat.shiftLeft_eq, nmB_snoc, e, Nat.or_comm, Nat.mul_comm b.toNat, ← Nat.two_pow_add_eq_or_of_lt h1, Nat.add_comm]
theorem number_any (B : Nat) (a : Option Addr) (c : Nat) (l : List UInt8) (w : World) (h : RestAt B w a l) (hl : l.length ≤ 8) :
    Calls Try.prog 70 #[.slice a l.length c] w fun e w' => e = .returned (.int .u64 (nmB l : Nat)) ∧ w' = w := by
  have H := hidOf h
  clear h
  go_enter Try.func70, Try.ntmps70
  go_wp2
  go_loopw [8, 3] (fun iv nv wr => ∃ k : Nat, iv = .int .i64 k ∧ nv = .int .u64 (nmB (l.take k) : Nat) ∧ k ≤ l.length ∧ wr = w) (fun iv _ _ => l.length - (intOf iv).toNat)
  case atStart => exact ⟨0, rfl, rfl, by omega, rfl⟩
  case round =>
    obtain ⟨k, rfl, rfl, hk, rfl⟩ := hrel
    by_cases hkN : k < l.length
    · have hlt : (k : Int) < l.length := by omega
      have h0 : (0 : Int) ≤ k := by omega
      obtain ⟨x, hx⟩ : ∃ x, l[k]? = some x := ⟨_, List.getElem?_eq_getElem hkN⟩
      obtain ⟨b, off, _, rfl, dd⟩ := H.out.resolve_left (fun e => by rw [e] at hkN; simp at hkN)
      have d := dd k x hx
      have hkl : (l.take k).length = k := by rw [List.length_take]; omega
      have hst : nmB (l.take (k + 1)) = nmB (l.take k) ||| (x.toNat <<< (8 * k)) % 18446744073709551616 := by
        have hor := nmB_or (l.take k) x (by omega)
        rw [hkl] at hor
        rw [← hor, List.take_add_one, hx]; rfl
      have hlt2 : nmB (l.take k) < 18446744073709551616 := by
        have h1 := nmB_lt (l.take k)
        have h2 : 256 ^ (l.take k).length ≤ 256 ^ 8 := Nat.pow_le_pow_right (by omega) (by omega)
        omega
      have hxe : l[k] = x := by rw [List.getElem?_eq_getElem hkN] at hx; exact Option.some.inj hx
      have hsh : Hid (IntKind.u64.wrap (IntKind.u64.wrap (x.toNat : Int) * 2 ^ (8 * k)) = (((x.toNat <<< (8 * k)) % 18446744073709551616 : Nat) : Int)) := by
        have hb := x.toNat_lt
        show _ = _
        rw [IntKind.wrap_u64 (x.toNat : Int), Int.emod_eq_of_lt (by omega) (by omega), IntKind.wrap_u64, Nat.shiftLeft_eq]
        rw [Int.natCast_emod, Int.natCast_mul, Int.natCast_pow]; rfl
      have hbits := hidOf (bits_or_u64_nat (nmB (l.take k)) ((x.toNat <<< (8 * k)) % 18446744073709551616) hlt2 (Nat.mod_lt _ (by omega)))
      have Hst := hidOf hst
      have Hxe := hidOf hxe
      clear dd hst hxe hlt2 hkl
      go_wp2
      rw [hsh.out, hbits.out, ← Hst.out]
      refine ⟨⟨k + 1, by simp, rfl, by omega, trivial⟩, ?_⟩
      simp [intOf]; omega
    · have hlt : ¬ (k : Int) < l.length := by omega
      obtain rfl : k = l.length := by omega
      rw [List.take_length]
      go_wp2
      go_ret
      exact ⟨rfl, rfl⟩
def jw (n : Int) : Nat := (n % 18446744073709551616).toNat
theorem jw_wrap (n : Int) : IntKind.u64.wrap n = (jw n : Nat) := by rw [IntKind.wrap_u64]; unfold jw; omega
theorem jw_nat (n : Nat) (h : n < 18446744073709551616) : jw n = n := by unfold jw; omega
theorem sizeSp : (Try.prog.info? 76).map (·.size) = some 2 := by kernel_rfl
theorem just_any (n : Int) (w : World) : Calls Try.prog 31 #[.int .i64 n] w fun e w' => e = .returned (.agg #[.int .u64 (jw n : Nat), .int .u64 (jw n : Nat)]) ∧ w' = w.alloc (.cells #[.int .u64 (jw n : Nat), .int .u64 (jw n : Nat)] 76) := by
  have h := jw_wrap n
  go_enter Try.func31, Try.ntmps31
  go_wp2
  refine bodyPost_ret (results_cell_row rfl _ _ w.heap.size 76 _ (0, 0) _ rfl (heap_alloc_new _ _) Try.underlying76 rfl sizeSp) rfl ?_
  exact ⟨rfl, rfl⟩
theorem upTo_any (n : Int) (w : World) : Calls Try.prog 71 #[.int .i64 n] w fun e w' => e = .returned (.agg #[.int .u64 0, .int .u64 (jw n : Nat)]) ∧ w' = w.alloc (.cells #[.int .u64 0, .int .u64 (jw n : Nat)] 76) := by
  have h := jw_wrap n
  go_enter Try.func71, Try.ntmps71
  go_wp2
  refine bodyPost_ret (results_cell_row rfl _ _ w.heap.size 76 _ (0, 0) _ rfl (heap_alloc_new _ _) Try.underlying76 rfl sizeSp) rfl ?_
  exact ⟨rfl, rfl⟩
theorem none_any (w : World) : Calls Try.prog 46 #[] w fun e w' => e = .returned (.agg #[.int .u64 1, .int .u64 0]) ∧ w' = w.alloc (.cells #[.int .u64 1, .int .u64 0] 76) := by
  go_enter Try.func46, Try.ntmps46
  go_wp2
  refine bodyPost_ret (results_cell_row rfl _ _ w.heap.size 76 _ (0, 0) _ rfl (heap_alloc_new _ _) Try.underlying76 rfl sizeSp) rfl ?_
  exact ⟨rfl, rfl⟩
def up8 (n : Nat) : Nat := (n + 7) / 8 * 8
theorem up8_any (n : Nat) (h1 : n ≤ 4000000000000000000) (w : World) : Calls Try.prog 47 #[.int .i64 n] w fun e w' => e = .returned (.int .i64 (up8 n : Nat)) ∧ w' = w := by
  have h2 : (n : Int) ≤ 4000000000000000000 := by omega
  go_enter Try.func47, Try.ntmps47
  go_wp2
  go_ret
  refine ⟨?_, rfl⟩
  congr 2
/-- the bytes of a number -/
def leB (n : Nat) : Nat → List UInt8
  | 0 => []
  | k + 1 => UInt8.ofNat (n % 256) :: leB (n / 256) k
theorem leB_len (k : Nat) : ∀ n, (leB n k).length = k := by
  induction k with
  | zero => intro n; rfl
  | succ k ih => intro n; simp [leB, ih]
theorem leB_snoc (k : Nat) : ∀ n, leB n (k + 1) = leB n k ++ [UInt8.ofNat (n / 256 ^ k % 256)] := by
  induction k with
  | zero => intro n; simp [leB]
  | succ k ih => intro n; rw [leB, ih (n / 256)]; simp [leB, Nat.div_div_eq_div_mul, Nat.pow_succ, Nat.mul_comm]
theorem nm_le (k : Nat) : ∀ n, nmB (leB n k) = n % 256 ^ k := by
  induction k with
  | zero => intro n; simp [leB, nmB, Nat.mod_one]
  | succ k ih =>
    intro n
    have h : (UInt8.ofNat (n % 256)).toNat = n % 256 := by simp
    rw [leB, nmB, ih, h, Nat.pow_succ, Nat.mul_comm (256 ^ k) 256, Nat.mod_mul]
theorem le_nm : ∀ l : List UInt8, leB (nmB l) l.length = l
  | [] => rfl
  | b :: r => by
    have hb := b.toNat_lt
    simp only [nmB, List.length_cons, leB]
    have h1 : (b.toNat + 256 * nmB r) % 256 = b.toNat := by omega
    have h2 : (b.toNat + 256 * nmB r) / 256 = nmB r := by omega
    rw [h1, h2, le_nm r]
    simp
end Go.Proofs.Ytlfcjbeldnkkoaa
namespace Go.Proofs.Ytlfcjbeldnkkoaa
open Go.RowKit
set_option linter.unusedVariables false
set_option linter.unusedSimpArgs false
/-- a field: its width, and what it may be -/
structure Fd where
  w : Nat
  lo : Nat
  hi : Nat
def Fd.cs (x : Fd) : List Value := [.int .i64 (x.w : Int), .int .u64 (x.lo : Int), .int .u64 (x.hi : Int)]
def fdV (l : List Fd) : List Value := l.flatMap Fd.cs
theorem fdV_len (l : List Fd) : (fdV l).length = l.length * 3 := by
  induction l with
  | nil => rfl
  | cons x r ih => show (x.cs ++ fdV r).length = _; rw [List.length_append, ih]; simp [Fd.cs]; omega
theorem fdV_app (l m : List Fd) : fdV (l ++ m) = fdV l ++ fdV m := by simp [fdV, List.flatMap_append]
theorem fdV_snoc (l : List Fd) (x : Fd) : fdV (l ++ [x]) = fdV l ++ x.cs := by simp [fdV, List.flatMap_append]
theorem fdV_one (l : List Fd) : ∀ u ∈ fdV l, u.oneCell' = true := by
  intro u hu
  simp only [fdV, List.mem_flatMap] at hu
  obtain ⟨x, _, hx⟩ := hu
  simp [Fd.cs] at hx
  rcases hx with rfl | rfl | rfl <;> rfl
theorem fdV_get : ∀ (l : List Fd) (i : Nat) (x : Fd) (j : Nat), l[i]? = some x → j < 3 → (fdV l)[i * 3 + j]? = x.cs[j]?
  | [], i, x, j, h, _ => by simp at h
  | y :: r, 0, x, j, h, hj => by
    simp at h; subst h
    show (y.cs ++ fdV r)[0 * 3 + j]? = _
    rw [List.getElem?_append_left (by simp [Fd.cs]; omega)]; simp
  | y :: r, i + 1, x, j, h, hj => by
    show (y.cs ++ fdV r)[(i + 1) * 3 + j]? = _
    rw [List.getElem?_append_right (by simp [Fd.cs]; omega), ← fdV_get r i x j (by simpa using h) hj]
    congr 1
    simp [Fd.cs]; omega
theorem infoFd : (Try.prog.info? 113).map (fun i => (i.zero, i.size, i.bytes)) = some (some (.agg #[.int .i64 0, .int .u64 0, .int .u64 0]), 3, 24) := by kernel_rfl
def OwF (B : Nat) (v : Value) (L : List Fd) (w : World) : Prop := w.ownsRow B 113 3 v L.length (fdV L)
theorem OwF.cells {B : Nat} {v : Value} {L : List Fd} {w : World} (h : OwF B v L w) {i : Nat} {x : Fd} (hx : L[i]? = some x) : ∃ g c, v = .slice (some ⟨g, 0, none⟩) L.length c ∧ L.length ≤ c ∧ w.cell? ⟨g, i * 3, none⟩ = some (.int .i64 (x.w : Int)) ∧ w.cell? ⟨g, i * 3 + 1, none⟩ = some (.int .u64 (x.lo : Int)) ∧ w.cell? ⟨g, i * 3 + 2, none⟩ = some (.int .u64 (x.hi : Int)) := by
  rcases h.2 with ⟨rfl, hn⟩ | ⟨g, cap, cur, rfl, hb, hg, hc, _⟩
  · rw [List.length_eq_zero_iff.1 hn] at hx; simp at hx
  · have key : ∀ j, j < 3 → w.cell? ⟨g, i * 3 + j, none⟩ = x.cs[j]? := fun j hj => by
      have hlt : j < x.cs.length := by simpa [Fd.cs] using hj
      have h1 := World.ownsRow.cells h (g := g) rfl (i * 3 + j) (x.cs[j]'hlt) (by rw [fdV_get L i x j hx hj, List.getElem?_eq_getElem hlt])
      rw [WideShapes.add_plain, Nat.zero_add] at h1
      rw [h1, List.getElem?_eq_getElem hlt]
    exact ⟨g, cap, rfl, hc, key 0 (by omega), key 1 (by omega), key 2 (by omega)⟩
/-- what fields are laid as -/
def layB (L : List Fd) : List UInt8 := L.flatMap fun f => leB f.lo f.w
def widF (L : List Fd) : Nat := (L.map Fd.w).sum
theorem layB_len (L : List Fd) : (layB L).length = widF L := by
  induction L with
  | nil => rfl
  | cons f r ih => show (leB f.lo f.w ++ layB r).length = _; rw [List.length_append, ih, leB_len]; simp [widF]
theorem layB_snoc (L : List Fd) (f : Fd) : layB (L ++ [f]) = layB L ++ leB f.lo f.w := by simp [layB]
theorem layB_app (L M : List Fd) : layB (L ++ M) = layB L ++ layB M := by simp [layB]
theorem shr_byte (n k : Nat) (hk : k < 8) : IntKind.u8.wrap ((n : Int) / 2 ^ (8 * k)) = ((UInt8.ofNat (n / 256 ^ k % 256)).toNat : Int) := by
  have e : (256 : Nat) ^ k = 2 ^ (8 * k) := by rw [Nat.pow_mul]
  rw [e]
  have h1 : ((n : Int) / 2 ^ (8 * k)) = ((n / 2 ^ (8 * k) : Nat) : Int) := by
    rw [Int.natCast_ediv, Int.natCast_pow]; rfl
  rw [h1]
  generalize n / 2 ^ (8 * k) = m
  simp [IntKind.wrap, IntKind.bits, IntKind.signed]
/-- a field's box -/
def boxF (f : Fd) : Obj := .cells #[.int .i64 (f.w : Int), .int .u64 (f.lo : Int), .int .u64 (f.hi : Int)] 113
def BoxF (w : World) (p : Nat) (f : Fd) : Prop := w.heap[p]? = some (.cells #[.int .i64 (f.w : Int), .int .u64 (f.lo : Int), .int .u64 (f.hi : Int)] 113 (0, 0))
theorem BoxF.cell {w : World} {p : Nat} {f : Fd} (h : BoxF w p f) (j : Nat) : w.cell? ⟨p, j, none⟩ = (#[.int .i64 (f.w : Int), .int .u64 (f.lo : Int), .int .u64 (f.hi : Int)] : Array Value)[j]? := by
  simp [World.cell?, show w.heap[p]? = _ from h]
theorem BoxF.lt {w : World} {p : Nat} {f : Fd} (h : BoxF w p f) : p < w.heap.size := (Array.getElem?_eq_some_iff.1 h).1
theorem BoxF.chg {S : Nat → Prop} {w w' : World} {p : Nat} {f : Fd} (h : BoxF w p f) (c : Chg S w w') (hs : ¬ S p) : BoxF w' p f := (c.block p h.lt hs).trans h
/-- the state amid a field -/
structure LayS (N : Nat) (w wr : World) (v fv : Value) (P : List UInt8) (L : List Fd) (p : Nat) (f : Fd) : Prop where
  own : OwB N v P wr
  bel : Below N w wr
  row : OwF 0 fv L wr
  box : BoxF wr p f
theorem Below.grownB {N : Nat} {w X w' : World} {v : Value} {O : List UInt8} (hb : Below N w X) (hN : N ≤ w.heap.size) (ho : OwB N v O X) (hg : X.grownBy w' v.ownBlock) : Below N w w' :=
  Below.trans hb ((Chg.of_grown (S := fun k => N ≤ k) hg (fun k hk => (World.ownsRow.lt ho k hk).1)).below (Nat.le_trans hN hb.size) (fun k h => h))
theorem LayS.alloc {N : Nat} {w wr : World} {v fv : Value} {P : List UInt8} {L : List Fd} {p : Nat} {f : Fd} (h : LayS N w wr v fv P L p f) (hN : N ≤ w.heap.size) (o : Obj) : LayS N w (wr.alloc o) v fv P L p f :=
  have c : Chg (fun _ => False) wr (wr.alloc o) := (Chg.refl _ wr).alloc o
  ⟨owns_chg h.own (fun _ _ h => h) c, h.bel.alloc (Nat.le_trans hN h.bel.size) o, owns_chg h.row (fun _ _ h => h) c, h.box.chg c (fun h => h)⟩
theorem LayS.grow {N : Nat} {w X w' : World} {v v' fv : Value} {P P' : List UInt8} {L : List Fd} {p : Nat} {f : Fd} (h : LayS N w X v fv P L p f) (hN : N ≤ w.heap.size) (ho : OwB N v' P' w') (hg : X.grownBy w' v.ownBlock) : LayS N w w' v' fv P' L p f :=
  have c : Chg (fun k => v.ownBlock = some k) X w' := Chg.of_grown hg (fun k hk => hk)
  ⟨ho, Below.grownB h.bel hN h.own hg, owns_chg h.row (fun k hk hk' => own_apart (by decide) h.row h.own k hk hk') c, h.box.chg c (own_type h.own h.box (by decide))⟩
set_option maxRecDepth 4000 in
set_option maxHeartbeats 2000000 in
theorem lay_any (N : Nat) (w : World) (ba : Option Addr) (bc : Nat) (O R : List UInt8) (fa : Option Addr) (fc : Nat) (L : List Fd) (hb : OwB N (.slice ba O.length bc) O w) (hN : N ≤ w.heap.size) (hF : OwF 0 (.slice fa L.length fc) L w) (hw : ∀ f ∈ L, f.w ≤ 8) (hl : O.length + widF L ≤ 1000000000000) (hL : L.length ≤ 1000000000000) (hR : R = O ++ layB L) :
    Calls Try.prog 29 #[.slice ba O.length bc, .slice fa L.length fc] w fun e w' => ∃ a c, e = .returned (.slice a R.length c) ∧ OwB N (.slice a R.length c) R w' ∧ Below N w w' := by
  obtain ⟨i0, hi, hz0, hz1, hz2⟩ := info_parts infoB
  have HF := hidOf hF
  have HB := hidOf hb
  have Hw := hidOf hw
  have HR := hidOf hR
  clear hF hb hw hR
  go_enter Try.func29, Try.ntmps29
  go_wp2
  go_loopw [10, 0] (fun iv bv wr => ∃ (i : Nat) (P : List UInt8) (a : Option Addr) (c : Nat), iv = .int .i64 i ∧ bv = .slice a P.length c ∧ i ≤ L.length ∧ Hid (P = O ++ layB (L.take i)) ∧ Hid (OwB N (.slice a P.length c) P wr) ∧ Hid (Below N w wr) ∧ Hid (OwF 0 (.slice fa L.length fc) L wr)) (fun iv _ _ => L.length - (intOf iv).toNat)
  case atStart => exact ⟨0, O, ba, bc, rfl, rfl, by omega, hidOf (by simp [layB]), HB.out, Below.refl _ _, HF.out⟩
  case round =>
    obtain ⟨i, P, a, c, rfl, rfl, hi', HP, HO, Hbel, HFr⟩ := hrel
    by_cases hiL : i < L.length
    · have hlt : (i : Int) < L.length := by omega
      have h0 : (0 : Int) ≤ i := by omega
      obtain ⟨f, hf⟩ : ∃ f, L[i]? = some f := ⟨_, List.getElem?_eq_getElem hiL⟩
      obtain ⟨g, fc', hv, hfc, d0, d1, d2⟩ := HFr.out.cells hf
      simp only [Value.slice.injEq] at hv
      obtain ⟨rfl, _, rfl⟩ := hv
      have hw8 : f.w ≤ 8 := Hw.out f (List.mem_of_getElem? hf)
      have hst := take_snoc hf
      have Hst := hidOf hst
      have hwid : widF (L.take i) + f.w ≤ widF L := by
        have e : widF L = widF (L.take (i + 1)) + widF (L.drop (i + 1)) := by
          conv => lhs; rw [← List.take_append_drop (i + 1) L]
          simp only [widF, List.map_append, List.sum_append]
        rw [e, hst]
        simp [widF]
      have hPl : P.length = O.length + widF (L.take i) := by rw [HP.out, List.length_append, layB_len]
      have hPw : P.length + f.w ≤ 1000000000000 := by omega
      have hNr : N ≤ wr.heap.size := Nat.le_trans hN Hbel.out.size
      obtain ⟨p, hp⟩ : ∃ p, p = wr.heap.size := ⟨_, rfl⟩
      have HS : Hid (LayS N w (wr.alloc (boxF f)) (.slice a P.length c) (.slice (some ⟨g, 0, none⟩) L.length fc) P L p f) := by
        have cc : Chg (fun _ => False) wr (wr.alloc (boxF f)) := (Chg.refl _ wr).alloc _
        exact ⟨owns_chg HO.out (fun _ _ h => h) cc, Hbel.out.alloc hNr _, owns_chg HFr.out (fun _ _ h => h) cc, by rw [hp]; exact heap_alloc_new wr _⟩
      clear hst hf hwid hPl
      go_upto_region 4 with fail
      rw [← hp]
      have e1 : wr.alloc (.cells #[.int .i64 (f.w : Int), .int .u64 (f.lo : Int), .int .u64 (f.hi : Int)] 113) = wr.alloc (boxF f) := rfl
      rw [e1]
      clear e1 hp
      generalize wr.alloc (boxF f) = wb at *
      have c0 : wb.cell? ⟨p, 0, none⟩ = some (.int .i64 (f.w : Int)) := HS.out.box.cell 0
      go_wp2
      clear c0 d0 d1 d2
      go_loopw [16, 0] (fun kv bv wk => ∃ (k : Nat) (P' : List UInt8) (a' : Option Addr) (c' : Nat), kv = .int .i64 k ∧ bv = .slice a' P'.length c' ∧ k ≤ f.w ∧ Hid (P' = P ++ leB f.lo k) ∧ Hid (LayS N w wk (.slice a' P'.length c') (.slice (some ⟨g, 0, none⟩) L.length fc) P' L p f)) (fun kv _ _ => f.w - (intOf kv).toNat)
      case atStart => exact ⟨0, P, a, c, rfl, rfl, by omega, hidOf (by simp [leB]), HS.out⟩
      case round =>
        obtain ⟨k, P', a', c', rfl, rfl, hk, HP', HS'⟩ := hrel
        by_cases hkw : k < f.w
        · have hklt : (k : Int) < f.w := by omega
          have hk0 : (0 : Int) ≤ k := by omega
          have hk8 : (k : Int) ≤ 7 := by omega
          have d1 : wr.cell? ⟨p, 1, none⟩ = some (.int .u64 (f.lo : Int)) := HS'.out.box.cell 1
          have hPl' : P'.length + 1 ≤ 1000000000000 := by
            rw [HP'.out, List.length_append, leB_len]; omega
          have Hby := hidOf (shr_byte f.lo k (by omega))
          have hNk : N ≤ wr.heap.size := Nat.le_trans hN HS'.out.bel.size
          go_wp2_with (at_builtin; refine wpList_append_own _ rfl (.tmp 19) (.tmp 27) 24 rfl N 5 i0 _ 1 1 Try.underlying24 hi hz0 hz1 hz2 rfl (by decide) (.slice a' P'.length c') P'.length (Lib.byteCells P') rfl ((HS'.out.alloc hN _).own) ⟨wr.heap.size, 0, none⟩ 1 1 [.int .u8 (IntKind.u8.wrap ((f.lo : Int) / 2 ^ (8 * k)))] rfl rfl (news_new wr _ _ _ rfl) (fun u hu => by rw [List.mem_singleton.1 hu]; rfl) (by unfold maxLen; omega) (by omega) (by rw [size_alloc]; omega) ?_; intro v4 w4 hown4 hgrow4 _; have HO4 := hidOf hown4; have Hg4 := hidOf hgrow4; clear hgrow4; obtain ⟨a4, c4, rfl⟩ := own_form hown4; clear hown4)
          have e2 : P ++ leB f.lo (k + 1) = P' ++ [UInt8.ofNat (f.lo / 256 ^ k % 256)] := by rw [leB_snoc, ← List.append_assoc, ← HP'.out]
          have e3 : (P ++ leB f.lo (k + 1)).length = P'.length + 1 := by rw [e2]; simp
          refine ⟨⟨k + 1, P ++ leB f.lo (k + 1), a4, c4, by simp, by rw [e3], by omega, rfl, ?_⟩, by simp [intOf]; omega⟩
          refine (HS'.out.alloc hN (.cells #[.int .u8 (IntKind.u8.wrap ((f.lo : Int) / 2 ^ (8 * k)))] 5)).grow hN ?_ Hg4.out
          show World.ownsRow _ _ _ _ _ _ _
          rw [e3, e2, bc_app]
          have h4 := HO4.out
          rw [Hby.out] at h4
          exact h4
        · have hklt : ¬ (k : Int) < f.w := by omega
          obtain rfl : k = f.w := by omega
          go_wp2
          have e2 : P' = O ++ layB (L.take (i + 1)) := by rw [Hst.out, layB_snoc, ← List.append_assoc, ← HP.out]; exact HP'.out
          refine ⟨⟨i + 1, P', a', c', by simp, rfl, by omega, e2, HS'.out.own, HS'.out.bel, HS'.out.row⟩, by simp [intOf]; omega⟩
    · have hlt : ¬ (i : Int) < L.length := by omega
      obtain rfl : i = L.length := by omega
      rw [List.take_length] at HP
      have HP' := HP.out.trans HR.out.symm
      subst HP'
      go_wp2
      go_ret
      exact ⟨a, c, rfl, HO.out, Hbel.out⟩
end Go.Proofs.Ytlfcjbeldnkkoaa
